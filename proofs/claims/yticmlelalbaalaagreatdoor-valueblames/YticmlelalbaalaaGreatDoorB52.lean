import Derived.Test.YticmlelalbaalaaGreatDoorB03
import Derived.Test.YticmlelalbaalaaGreatDoorB38
import Derived.Test.YticmlelalbaalaaGreatDoorB02
import Derived.Laws.AppendOwn
import Derived.Deep.Cut
import Derived.Deep.RegionHeld3
import Derived.Laws.BytesArg
import Derived.Deep.LoopGhost
import Derived.Test.YticmlelalbaalaaGreatDoorB06
import Derived.Deep.CutRange
namespace Go.Proofs.YticmlelalbaalaaGreatDoor
open Go.RowKit
theorem Num.low {B B' : Nat} {w : World} {v : Value} {n : Int} {k : Nat} (h : Num B w v n k) (hB : B' ≤ B) : Num B' w v n k := by
  obtain ⟨zs, ⟨ao, h1, h2, h3⟩, hr⟩ := h
  refine ⟨zs, ⟨ao, h1, h2, fun hp => ?_⟩, hr⟩
  obtain ⟨g, rest, h4, h5, h6⟩ := h3 hp
  exact ⟨g, rest, h4, Nat.le_trans hB h5, h6⟩
end Go.Proofs.YticmlelalbaalaaGreatDoor
namespace Go.Proofs.YticmlelalbaalaaGreatDoor
open Go.RowKit
set_option linter.unusedVariables false
def dgv : List Int → Int
  | [] => 0
  | a :: x => (a - 48) * tn x.length + dgv x
def Dq (es : List Int) : Prop := ∀ x ∈ es, 48 ≤ x ∧ x ≤ 57
theorem Dq.append {es fs : List Int} (h : Dq es) (g : Dq fs) : Dq (es ++ fs) := fun x hx => by
  rcases List.mem_append.1 hx with k | k
  · exact h x k
  · exact g x k
theorem dgv_append (xs ys : List Int) : dgv (xs ++ ys) = dgv xs * tn ys.length + dgv ys := by
  induction xs with
  | nil => simp [dgv]
  | cons a x ih =>
    rw [List.cons_append, dgv, ih, dgv, List.length_append, tn_add, Int.add_mul, ← Int.mul_assoc]
    omega
theorem dgv_one (a : Int) : dgv [a] = a - 48 := by simp [dgv, tn_zero]
theorem dgv_snoc (xs : List Int) (b : Int) : dgv (xs ++ [b]) = dgv xs * 10 + (b - 48) := by
  rw [dgv_append, dgv_one]; rfl
theorem dgv_range {xs : List Int} (h : Dq xs) : 0 ≤ dgv xs ∧ dgv xs < tn xs.length := by
  induction xs with
  | nil => simp [dgv, tn_zero]
  | cons a x ih =>
    obtain ⟨i0, i1⟩ := ih (fun y hy => h y (List.mem_cons_of_mem _ hy))
    obtain ⟨a0, a1⟩ := h a List.mem_cons_self
    rw [dgv, List.length_cons, tn_succ]
    have p := tn_pos x.length
    have q0 : 0 ≤ (a - 48) * tn x.length := Int.mul_nonneg (by omega) (by omega)
    have q1 : (a - 48) * tn x.length ≤ 9 * tn x.length := Int.mul_le_mul_of_nonneg_right (by omega) (by omega)
    omega
theorem dgv_lead {a : Int} {xs : List Int} (h : Dq (a :: xs)) (ha : a ≠ 48) : tn xs.length ≤ dgv (a :: xs) := by
  obtain ⟨i0, i1⟩ := dgv_range (xs := xs) (fun y hy => h y (List.mem_cons_of_mem _ hy))
  obtain ⟨a0, a1⟩ := h a List.mem_cons_self
  have p := tn_pos xs.length
  have q1 : 1 * tn xs.length ≤ (a - 48) * tn xs.length := Int.mul_le_mul_of_nonneg_right (by omega) (by omega)
  rw [dgv]; omega
theorem dgv_lead' {xs : List Int} (h : Dq xs) (hl : 0 < xs.length) (ha : Nt.lb xs 0 ≠ 48) : tn (xs.length - 1) ≤ dgv xs := by
  cases xs with
  | nil => simp at hl
  | cons a x => exact dgv_lead h (by simpa [Nt.lb] using ha)
def Dstr (V : Int) (ds : List Int) : Prop := Dq ds ∧ 0 < ds.length ∧ (Nt.lb ds 0 ≠ 48 ∨ ds = [48]) ∧ dgv ds = V
theorem dg_inj : ∀ {xs ys : List Int}, xs.length = ys.length → Dq xs → Dq ys → dgv xs = dgv ys → xs = ys
  | [], [], _, _, _, _ => rfl
  | [], _ :: _, h, _, _, _ => by simp at h
  | _ :: _, [], h, _, _, _ => by simp at h
  | a :: x, b :: y, h, hx, hy, he => by
    have hl : x.length = y.length := by simpa using h
    have h1 := dgv_range (xs := x) (fun z hz => hx z (List.mem_cons_of_mem _ hz))
    have h2 := dgv_range (xs := y) (fun z hz => hy z (List.mem_cons_of_mem _ hz))
    rw [dgv, dgv, hl] at he
    rw [hl] at h1
    have e : a = b := by
      rcases Int.lt_trichotomy a b with c | c | c
      · exfalso
        have : (a - 48 + 1) * tn y.length ≤ (b - 48) * tn y.length := Int.mul_le_mul_of_nonneg_right (by omega) (Int.le_of_lt (tn_pos _))
        rw [Int.add_mul, Int.one_mul] at this
        omega
      · exact c
      · exfalso
        have : (b - 48 + 1) * tn y.length ≤ (a - 48) * tn y.length := Int.mul_le_mul_of_nonneg_right (by omega) (Int.le_of_lt (tn_pos _))
        rw [Int.add_mul, Int.one_mul] at this
        omega
    subst e
    have e2 : dgv x = dgv y := by omega
    rw [dg_inj hl (fun z hz => hx z (List.mem_cons_of_mem _ hz)) (fun z hz => hy z (List.mem_cons_of_mem _ hz)) e2]
theorem tn_lt {a b : Nat} (h : tn a < tn b) : a < b := by
  rcases Nat.lt_or_ge a b with c | c
  · exact c
  · have := tn_mono c; omega
theorem Dstr.unique {V : Int} {xs ys : List Int} (hx : Dstr V xs) (hy : Dstr V ys) : xs = ys := by
  obtain ⟨x1, x2, x3, x4⟩ := hx
  obtain ⟨y1, y2, y3, y4⟩ := hy
  have rx := dgv_range x1
  have ry := dgv_range y1
  have z0 : dgv [48] = 0 := by rw [dgv_one]; omega
  have key : ∀ {qs : List Int}, Dq qs → 0 < qs.length → Nt.lb qs 0 ≠ 48 → dgv qs ≠ 0 := fun h1 h2 h3 h4 => by
    have := dgv_lead' h1 h2 h3
    have h5 := Int.lt_of_lt_of_le (tn_pos _) this
    omega
  rcases x3 with x3 | x3
  · rcases y3 with y3 | y3
    · refine dg_inj ?_ x1 y1 (x4.trans y4.symm)
      have lx := dgv_lead' x1 x2 x3
      have ly := dgv_lead' y1 y2 y3
      have h1 := tn_lt (a := xs.length - 1) (b := ys.length) (by omega)
      have h2 := tn_lt (a := ys.length - 1) (b := xs.length) (by omega)
      omega
    · exfalso
      rw [y3, z0] at y4
      exact key x1 x2 x3 (by rw [x4, ← y4])
  · rcases y3 with y3 | y3
    · exfalso
      rw [x3, z0] at x4
      exact key y1 y2 y3 (by rw [y4, ← x4])
    · rw [x3, y3]
theorem Arg.lt {w : World} {v : Value} {n : Int} {k : Nat} (h : Arg w v n k) : n < Nt.pw k := by
  obtain ⟨zs, _, h2, rfl, h4⟩ := h
  have h5 := Nt.val_lt h2
  have h6 := Nt.pw_mono h4
  omega
theorem lb_getq {es : List Int} {p : Nat} (h : p < es.length) : Nt.lb es p = es[p] := by simp [Nt.lb, h]
theorem owns_belowq {w w' : World} {base : Nat} {e : TypeId} {z : Nat} {v : Value} {n : Nat} {xs : List Value} (h : w.ownsRow base e z v n xs) (hb : Below w.heap.size w w') : w'.ownsRow base e z v n xs := by
  refine h.kept (row := none) ⟨hb.os, hb.tape, hb.output, hb.size, fun k hk _ => hb.block k hk⟩ ?_
  by_cases e : v.ownBlock = none
  · exact .inl e
  · exact .inr e
theorem below_allocq (w : World) (o : Obj) : Below w.heap.size w (w.alloc o) := (Below.refl _ _).alloc (Nat.le_refl _) _
theorem Tryz.infoU8q : (Tryz.prog.info? 5).map (fun i => (i.zero, i.size, i.bytes)) = some (some (.int .u8 0), 1, 1) := by kernel_rfl
theorem own_grewq {w0 w w' : World} {B : Nat} {E : TypeId} {v : Value} {n : Nat} {xs : List Value} (h : Below B w0 w) (hB : B ≤ w.heap.size) (ho : w.ownsRow B E 1 v n xs) (hg : w.grownBy w' v.ownBlock) : Below B w0 w' :=
  h.grown hg hB (fun k hk => (ho.lt k hk).1)
theorem Num.grown8 {B : Nat} {w w' : World} {v : Value} {n : Int} {k : Nat} {r : Option Nat} (h : Num B w v n k) (hg : w.grownBy w' r) (hr : ∀ b, r = some b → ∃ cs, w.heap[b]? = some (.cells cs 5 (0, 0))) : Num B w' v n k := by
  obtain ⟨zs, ⟨ao, rfl, h2, h3⟩, h4⟩ := h
  refine ⟨zs, ⟨ao, rfl, h2, fun hp => ?_⟩, h4⟩
  obtain ⟨g, rest, e, hB, hrow⟩ := h3 hp
  refine ⟨g, rest, e, hB, ?_⟩
  obtain ⟨_, _, _, _, hk⟩ := hg
  unfold Row
  rw [hk g hrow.lt ?_]
  · exact hrow
  · intro e
    obtain ⟨cs, hc⟩ := hr g e.symm
    unfold Row at hrow
    rw [hrow] at hc
    injection hc with hc
    injection hc with _ h5
    exact absurd h5 (by decide)
theorem owns_u8 {w : World} {base : Nat} {v : Value} {n : Nat} {xs : List Value} (h : w.ownsRow base 5 1 v n xs) : ∀ b, v.ownBlock = some b → ∃ cs, w.heap[b]? = some (.cells cs 5 (0, 0)) := by
  intro b hb
  rcases h.2 with ⟨rfl, _⟩ | ⟨g, cap, cur, rfl, _, h1, _⟩
  · cases hb
  · cases hb
    exact ⟨_, h1⟩
theorem cell_1 (w : World) (E : TypeId) (k : IntKind) (x : Int) : Cells k (w.alloc (.cells #[.int k x] E)) (some ⟨w.heap.size, 0, none⟩) [x] := by
  intro _
  refine ⟨w.heap.size, 0, rfl, by simp, fun i hi => ?_⟩
  have hi0 : i = 0 := by simpa using hi
  subst hi0
  rw [World.cell?_alloc_at _ _ _ _ (by simp)]
  rfl
theorem own_str {w : World} {v : Value} {zs : List Int} (h : Reads .u8 w v zs) (hn : 0 < zs.length) : (convert 98 9 v).run Tryz.prog w = .ok (.string (strOfNums zs)) w := by
  obtain ⟨ao, cap, rfl, h2, h3, h4⟩ := h
  obtain ⟨b, off, rfl, _, e3⟩ := h4 hn
  refine run_convert_bytes_arg w 98 5 Tryz.underlying98 Tryz.underlying5 b off zs.length cap zs rfl ?_ 9 Tryz.underlying9
  intro i hi
  rw [e3 i hi]; simp [Nt.lb]
theorem owns_put {w : World} {base : Nat} {e : TypeId} {kd : IntKind} {g n cap : Nat} {xs : List Int} (h : w.ownsRow base e 1 (.slice (some ⟨g, 0, none⟩) n cap) n (xs.map (Value.int kd))) {i : Nat} (hi : i < n) (x : Int) :
    (w.setCell ⟨g, i, none⟩ (.int kd x)).ownsRow base e 1 (.slice (some ⟨g, 0, none⟩) n cap) n ((xs.set i x).map (Value.int kd)) := by
  obtain ⟨h1, h2⟩ := h
  rcases h2 with ⟨h2, _⟩ | ⟨g', cap', cur, he, hb, hg, hnc, hcm, hcs, ht⟩
  · cases h2
  cases he
  refine ⟨by simpa using h1, .inr ⟨g, cap, cur.setIfInBounds i (.int kd x), rfl, hb, ?_, hnc, hcm, by simpa using hcs, ?_⟩⟩
  · rw [heap_setCell_same w g i _ _ _ hg]
  · rw [List.map_set, ← ht]
    simp [List.take_set]
theorem owns_get {w : World} {base : Nat} {e : TypeId} {kd : IntKind} {g n cap : Nat} {xs : List Int} (h : w.ownsRow base e 1 (.slice (some ⟨g, 0, none⟩) n cap) n (xs.map (Value.int kd))) {i : Nat} (hi : i < n) :
    w.cell? ⟨g, i, none⟩ = some (.int kd (Nt.lb xs i)) ∧ w.frozen? ⟨g, i, none⟩ = false ∧ base ≤ g := by
  obtain ⟨h1, h2⟩ := h
  have hl : xs.length = n := by simpa using h1
  rcases h2 with ⟨h2, _⟩ | ⟨g', cap', cur, he, hb, hg, hnc, hcm, hcs, ht⟩
  · cases h2
  cases he
  refine ⟨?_, frozen_of_row w g i _ _ hg, hb⟩
  rw [cell_of_row w g i _ _ _ hg]
  have h3 : (cur.toList.take (n * 1))[i]? = some (.int kd (Nt.lb xs i)) := by
    rw [ht, List.getElem?_map, List.getElem?_eq_getElem (by omega)]
    simp [Nt.lb, hl, hi]
  rw [List.getElem?_take_of_lt (by omega)] at h3
  simpa using h3
theorem p2_tn (n : Nat) : p2 n ≤ tn n := by
  induction n with
  | zero => decide
  | succ n ih =>
    have := p2_pos n
    rw [tn_succ, p2]; omega
theorem dg_rev (bs : List Int) (d : Int) : dgv (bs ++ [d]).reverse = (d - 48) * tn bs.length + dgv bs.reverse := by
  rw [List.reverse_append, List.reverse_singleton, List.singleton_append, dgv, List.length_reverse]
theorem lb_rev {xs : List Int} {i : Nat} (h : i < xs.length) : Nt.lb xs.reverse i = Nt.lb xs (xs.length - 1 - i) := by
  have h2 : xs.length - 1 - i < xs.length := by omega
  simp [Nt.lb, h, h2]
structure Bck (V A : Int) (bs : List Int) : Prop where
  dgv : Dq bs
  val : A * tn bs.length + Go.Proofs.YticmlelalbaalaaGreatDoor.dgv bs.reverse = V
  top : A = 0 → 0 < bs.length ∧ Nt.lb bs (bs.length - 1) ≠ 48
theorem Bck.next {V A : Int} {bs : List Int} (h : Bck V A bs) (hA : 0 < A) : Bck V (A / 10) (bs ++ [48 + A % 10]) := by
  have m0 := Int.emod_nonneg A (b := 10) (by omega)
  have m1 := Int.emod_lt_of_pos A (b := 10) (by omega)
  refine ⟨h.dgv.append (fun x hx => by simp at hx; omega), ?_, fun e => ⟨by simp, ?_⟩⟩
  · rw [List.length_append, dg_rev, show [48 + A % 10].length = 1 from rfl, tn_succ, ← h.val]
    generalize tn bs.length = T
    generalize Go.Proofs.YticmlelalbaalaaGreatDoor.dgv bs.reverse = R
    have e : A * T = (A / 10 * 10 + A % 10) * T := by congr 1; omega
    rw [e, Int.add_mul, show 48 + A % 10 - 48 = A % 10 by omega, Int.mul_assoc]
    omega
  · rw [show (bs ++ [48 + A % 10]).length - 1 = bs.length by simp]
    have : Nt.lb (bs ++ [48 + A % 10]) bs.length = 48 + A % 10 := by simp [Nt.lb]
    rw [this]; omega
theorem Bck.len {V A : Int} {bs : List Int} (h : Bck V A bs) (hA : 0 < A) {k : Nat} (hV : V < Nt.pw k) : bs.length < 32 * k := by
  have h1 := p2_tn bs.length
  have h2 : 1 * tn bs.length ≤ A * tn bs.length := Int.mul_le_mul_of_nonneg_right (by omega) (Int.le_of_lt (tn_pos _))
  have h3 := (dgv_range (xs := bs.reverse) (fun x hx => h.dgv x (by simpa using hx))).1
  have h4 := h.val
  rcases Nat.lt_or_ge bs.length (32 * k) with c | c
  · exact c
  · have h5 := p2_mono c
    rw [p2_32] at h5
    omega
theorem rev_step {zs bs : List Int} {L i k : Nat} {a b : Int} (hzl : zs.length = L) (hk : k = L - 1 - i) (hik : i < k) (h1 : ∀ j, j < i → Nt.lb zs j = Nt.lb bs (L - 1 - j) ∧ Nt.lb zs (L - 1 - j) = Nt.lb bs j) (h2 : ∀ j, i ≤ j → j < L - i → Nt.lb zs j = Nt.lb bs j) (ha : Nt.lb zs i = a) (hb : Nt.lb zs k = b) :
    (∀ j, j < i + 1 → Nt.lb ((zs.set i b).set k a) j = Nt.lb bs (L - 1 - j) ∧ Nt.lb ((zs.set i b).set k a) (L - 1 - j) = Nt.lb bs j) ∧ (∀ j, i + 1 ≤ j → j < L - (i + 1) → Nt.lb ((zs.set i b).set k a) j = Nt.lb bs j) := by
  have kl : k < (zs.set i b).length := by rw [List.length_set]; omega
  have il : i < zs.length := by omega
  refine ⟨fun j hj => ?_, fun j c1 c2 => ?_⟩
  · rcases Nat.lt_or_ge j i with c | c
    · rw [Nt.lb_set_ne (by omega), Nt.lb_set_ne (by omega), Nt.lb_set_ne (by omega), Nt.lb_set_ne (by omega)]
      exact h1 j c
    · have e : j = i := by omega
      subst e
      rw [← hk, Nt.lb_set_eq kl, Nt.lb_set_ne (by omega), Nt.lb_set_eq il, ← ha, ← hb]
      exact ⟨h2 k (by omega) (by omega), h2 j (by omega) (by omega)⟩
  · rw [Nt.lb_set_ne (by omega), Nt.lb_set_ne (by omega)]
    exact h2 j (by omega) (by omega)
theorem rev_done {zs bs : List Int} {L M : Nat} (hzl : zs.length = L) (hbl : bs.length = L) (hM2 : 2 * M ≤ L) (hM3 : L ≤ 2 * M + 1) (h1 : ∀ j, j < M → Nt.lb zs j = Nt.lb bs (L - 1 - j) ∧ Nt.lb zs (L - 1 - j) = Nt.lb bs j) (h2 : ∀ j, M ≤ j → j < L - M → Nt.lb zs j = Nt.lb bs j) : zs = bs.reverse := by
  apply List.ext_getElem (by simp [hzl, hbl])
  intro j c1 c2
  have key : Nt.lb zs j = Nt.lb bs.reverse j := by
    rw [lb_rev (by omega), hbl]
    rcases Nat.lt_or_ge j M with c | c
    · exact (h1 j c).1
    · rcases Nat.lt_or_ge j (L - M) with d | d
      · rw [show L - 1 - j = j by omega]
        exact h2 j c d
      · have := (h1 (L - 1 - j) (by omega)).2
        rw [show L - 1 - (L - 1 - j) = j by omega] at this
        exact this
  rw [lb_getq c1, lb_getq c2] at key
  exact key
set_option maxRecDepth 20000 in
set_option maxHeartbeats 8000000 in
theorem rdigits_any {w : World} {va : Value} {V : Int} {kk : Nat} (ha : Arg w va V kk) (hkk : kk ≤ 1048576) :
    Calls Tryz.prog 122 #[va] w fun e w' => ∃ ds, e = .returned (.string (strOfNums ds)) ∧ Dstr V ds ∧ Below w.heap.size w w' := by
  go_enter Tryz.func122, Tryz.ntmps122
  go_wp2_with fail
  refine (rnorm_any ha (by omega)).mono ?_
  rintro e w0 ⟨v, rfl, hn, hb0⟩
  have hVlt := ha.lt
  have hV0 := ha.nonneg
  have HN0 := hide hn
  obtain ⟨xs, ⟨ao, rfl, -⟩, hc, hv, hxk⟩ := hn
  have HVl := hide (And.intro hV0 hVlt)
  clear ha hVlt hV0
  by_cases hz : V = 0
  · have hx0 : xs = [] := (Nt.canon_zero hc).1 (hv.trans hz)
    subst hx0
    have HD : Hid (Dstr V [48]) := hide ⟨fun x hx => by simp at hx; omega, by simp, .inr rfl, by rw [dgv_one, hz]; omega⟩
    clear hc hv
    go_wp2
    go_ret
    exact ⟨[48], rfl, HD.out, hb0⟩
  · have hx0 : ¬ xs.length = 0 := by
      intro e
      have := List.eq_nil_of_length_eq_zero e
      subst this
      rw [Nt.val_nil] at hv; omega
    have hx1 : ((xs.length : Int) == 0) = false := by simp; intro e; subst e; simp at hx0
    have HB0 : Hid (Bck V V []) := hide ⟨fun x hx => (by cases hx), (by simp [Go.Proofs.YticmlelalbaalaaGreatDoor.dgv, tn_zero]), fun e => absurd e hz⟩
    clear hc hv hx0
    go_wp2
    clear hx1
    go_loopg [0, 3] V.toNat (fun c sa out wr => ∃ (A : Int) (bs : List Int), c = A.toNat ∧ 0 ≤ A ∧ Num w.heap.size wr sa A kk ∧ Bck V A bs ∧ bs.length ≤ 33554432 ∧ wr.ownsRow w.heap.size 5 1 out bs.length (bs.map (Value.int .u8)) ∧ Below w.heap.size w wr)
    case atStart => exact ⟨V, [], rfl, HVl.out.1, HN0.out, HB0.out, by simp, World.ownsRow_nil _ _ _ _, hb0⟩
    case round =>
      clear HN0 HB0 hb0
      obtain ⟨A, bs, hgA, hA0, hna, hbk, hbl, hown, hbr⟩ := hrel
      have HBK := hide hbk
      have HNA := hide hna
      clear hbk
      obtain ⟨ys, ⟨yo, rfl, -⟩, yc, yv, -⟩ := hna
      by_cases hA : A = 0
      · have hy0 : ys = [] := (Nt.canon_zero yc).1 (yv.trans hA)
        subst hy0
        have hbp := (HBK.out.top hA).1
        obtain ⟨L, hL⟩ : ∃ L, bs.length = L := ⟨_, rfl⟩
        rw [hL] at hown hbl hbp
        obtain ⟨g, cap, hve⟩ : ∃ g cap, u3 = .slice (some ⟨g, 0, none⟩) L cap := by
          rcases hown.2 with ⟨_, h⟩ | ⟨g, cap, _, h, _⟩
          · omega
          · exact ⟨g, cap, h⟩
        subst hve
        have HL := hide hL
        obtain ⟨M, hM⟩ : ∃ M : Nat, M = L / 2 := ⟨_, rfl⟩
        have hM1 : (L : Int) / 2 = (M : Int) := by omega
        have hM2 : 2 * M ≤ L := by omega
        have hM3 : L ≤ 2 * M + 1 := by omega
        clear yc yv hL hM
        go_wp2
        go_loopg [7] M (fun c iv wr => ∃ (i : Nat) (zs : List Int), i ≤ M ∧ c = M - i ∧ iv = .int .i64 i ∧ zs.length = L ∧ (∀ j, j < i → Nt.lb zs j = Nt.lb bs (L - 1 - j) ∧ Nt.lb zs (L - 1 - j) = Nt.lb bs j) ∧ (∀ j, i ≤ j → j < L - i → Nt.lb zs j = Nt.lb bs j) ∧ wr.ownsRow w.heap.size 5 1 (.slice (some ⟨g, 0, none⟩) L cap) L (zs.map (Value.int .u8)) ∧ Below w.heap.size w wr)
        case atStart => exact ⟨0, bs, by omega, rfl, rfl, HL.out, fun j hj => absurd hj (by omega), fun _ _ _ => rfl, hown, hbr⟩
        case round =>
          clear hown hbr
          obtain ⟨i, zs, hi, hgi, rfl, hzl, hz1, hz2, hown, hbr⟩ := hrel
          have HZ := hide (And.intro hz1 hz2)
          clear hz1 hz2
          by_cases hiM : i < M
          · obtain ⟨k, hk⟩ : ∃ k : Nat, k = L - 1 - i := ⟨_, rfl⟩
            have hk1 : (L : Int) - 1 - (i : Int) = (k : Int) := by omega
            have hkL : k < L := by omega
            have hik : i < k := by omega
            have hiL : i < L := by omega
            obtain ⟨g1, f1, gb⟩ := owns_get hown hiL
            obtain ⟨g2, f2, _⟩ := owns_get hown hkL
            have hne : ¬ i = k := by omega
            have hne' : ¬ k = i := by omega
            have i1 : (i : Int) < (M : Int) := by omega
            have i2 : (i : Int) < (L : Int) := by omega
            have k2 : (k : Int) < (L : Int) := by omega
            have HK := hide hk
            obtain ⟨a, hae⟩ : ∃ a, Nt.lb zs i = a := ⟨_, rfl⟩
            obtain ⟨b, hbe⟩ : ∃ b, Nt.lb zs k = b := ⟨_, rfl⟩
            rw [hae] at g1
            rw [hbe] at g2
            have HAB := hide (And.intro hae hbe)
            have HO := hide (show ((wr.setCell ⟨g, i, none⟩ (.int .u8 b)).setCell ⟨g, k, none⟩ (.int .u8 a)).ownsRow w.heap.size 5 1 (.slice (some ⟨g, 0, none⟩) L cap) L (((zs.set i b).set k a).map (Value.int .u8)) from owns_put (owns_put hown hiL b) hkL a)
            have HO2 := hide (show ((wr.setCell ⟨g, k, none⟩ (.int .u8 a)).setCell ⟨g, i, none⟩ (.int .u8 b)).ownsRow w.heap.size 5 1 (.slice (some ⟨g, 0, none⟩) L cap) L (((zs.set k a).set i b).map (Value.int .u8)) from owns_put (owns_put hown hkL a) hiL b)
            have HW := hide (And.intro hbr gb)
            clear hk hown hae hbe hbr
            go_wp2
            go_region
            all_goals go_wp2
            all_goals go_roundg (M - (i + 1))
            all_goals first
              | omega
              | exact ⟨i + 1, (zs.set i b).set k a, by omega, rfl, by go_num, by simp [hzl], (rev_step hzl HK.out hik HZ.out.1 HZ.out.2 HAB.out.1 HAB.out.2).1, (rev_step hzl HK.out hik HZ.out.1 HZ.out.2 HAB.out.1 HAB.out.2).2, HO.out, ((HW.out.1.drew.setCell (p := ⟨g, i, none⟩) HW.out.2 _).setCell (p := ⟨g, k, none⟩) HW.out.2 _)⟩
          · have hie : i = M := by omega
            subst hie
            have hzs := rev_done hzl HL.out hM2 hM3 HZ.out.1 HZ.out.2
            have hcv := own_str (reads_of_owns hown) (by omega)
            have HD : Hid (Dstr V zs) := hide (by
              obtain ⟨b1, b2, b3⟩ := HBK.out
              rw [hA, Int.zero_mul, Int.zero_add] at b2
              refine ⟨by rw [hzs]; exact fun x hx => b1 x (by simpa using hx), by omega, .inl ?_, by rw [hzs]; exact b2⟩
              rw [hzs, lb_rev (by have := HL.out; omega), Nat.sub_zero]
              exact (b3 hA).2)
            have HW := hide hbr
            clear hzs hbr
            go_wp2
            go_ret
            exact ⟨zs, rfl, HD.out, HW.out⟩
      · have hyp : (0 : Int) < (ys.length : Int) := by
          rcases Nat.eq_zero_or_pos ys.length with h | h
          · rw [List.eq_nil_of_length_eq_zero h, Nt.val_nil] at yv; omega
          · omega
        have hA10 : 0 ≤ A / 10 := by omega
        have hme : (A / 10).toNat < gk := by omega
        have m0 := Int.emod_nonneg A (b := 10) (by omega)
        have m1 := Int.emod_lt_of_pos A (b := 10) (by omega)
        have hlen := HBK.out.len (by omega) HVl.out.2
        clear yc yv
        go_wp2_with fail
        with_reducible refine (rsmall_yes (d := 10) HNA.out.arg (by omega) (by omega) (by omega)).mono ?_
        rintro e w2 ⟨v2, rfl, hn2, hb2⟩
        obtain ⟨r, hr⟩ : ∃ r, A % 10 = r := ⟨_, rfl⟩
        rw [hr] at m0 m1 ⊢
        have hown2 := (owns_belowq hown hb2).alloc (.cells #[.int .u8 (48 + r)] 5)
        have hal := below_allocq w2 (.cells #[.int .u8 (48 + r)] 5)
        have HX := hide (And.intro ((hn2.low hbr.size).below hal) (below_trans (below_trans hbr hb2) hal))
        have hs2 : w.heap.size ≤ w2.heap.size := Nat.le_trans hbr.size hb2.size
        obtain ⟨_, ⟨po, rfl, -⟩, -⟩ := hn2
        clear hbr hb2 hown
        have e48 : (48 + r) % 256 = 48 + r := by omega
        go_wp2_with (at_builtin; refine wpList_append_cells _ rfl _ _ 98 rfl w.heap.size 5 .u8 1 Tryz.underlying98 Tryz.infoU8q _ bs.length bs rfl hown2 (some ⟨w2.heap.size, 0, none⟩) 1 [48 + r] rfl (cell_1 _ _ _ _) (by unfold maxLen; simp; omega) (by simp; omega) (by simp; omega) ?_)
        intro v' w3 hown3 hgr
        have HF := hide (And.intro (HX.out.1.grown8 hgr (owns_u8 hown2)) (own_grewq HX.out.2 (by simp; omega) hown2 hgr))
        have HO3 := hide hown3
        have HBN := hide (HBK.out.next (by omega))
        rw [hr] at HBN
        clear hown3 hgr hown2
        go_wp2
        go_roundg (A / 10).toNat
        case measure => exact hme
        case rel => exact ⟨A / 10, bs ++ [48 + r], rfl, hA10, HF.out.1, HBN.out, by simp; omega, by simpa using HO3.out, HF.out.2⟩
end Go.Proofs.YticmlelalbaalaaGreatDoor
