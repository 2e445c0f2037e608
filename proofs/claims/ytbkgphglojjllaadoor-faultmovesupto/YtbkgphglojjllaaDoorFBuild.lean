/- law13.build: the error of any tree -/
import Derived.Test.YtbkgphglojjllaaDoorFStep
import Derived.Deep.RegionHeld3
import Derived.Deep.AppendLies
import Derived.Deep.RegionLaw
namespace Go.Proofs.YtbkgphglojjllaaDoor
open Go.RowKit
set_option linter.unusedVariables false

theorem snt_lt {w : World} {a : Nat → Addr} (h : Snt w a) {i : Nat} (hi : i < 12) : (a i).block < w.heap.size := by
  obtain ⟨c, t, ho⟩ := h.obj i hi
  exact (Array.getElem?_eq_some_iff.1 ho).1
/-- is the first of some nodes nil? -/
def fstNil (ks : List Nd) : Bool := match ks with
  | [] => true
  | y :: _ => ndNil y
theorem errInfo : (Tryd.prog.info? 27).map (fun i => (i.zero, i.size, i.bytes)) = some (some .nilIface, 1, 16) := by kernel_rfl
theorem info_err : ∃ i, Tryd.prog.info? 27 = some i ∧ i.zero = some .nilIface ∧ i.size = 1 ∧ i.bytes = 16 := by
  obtain ⟨i, hi, h⟩ := Option.map_eq_some_iff.1 errInfo
  simp only [Prod.mk.injEq] at h
  exact ⟨i, hi, h.1, h.2.1, h.2.2⟩
/-- append of one error to a list of one's own, in a region that draws its order -/
theorem step_append_err {ops : Array Oper} {o : Oper} {a : Act} {w : World} {K : Act → World → Prop} {Q : Exit → Act → World → Prop} {E : Prop} (hgd : o.guard = none) (s x : Operand)
    (ho : o.op = .call { callee := .builtin .append, args := #[s, x], argTypes := #[47, 47] })
    (base : Nat) (v : Value) (n : Nat) (xs : List Value) (hs : a.eval s = v) (hown : w.ownsRow base 27 1 v n xs)
    (nb c : Nat) (u : Value) (hx : a.eval x = .slice (some ⟨nb, 0, none⟩) 1 c) (hc : w.cell? ⟨nb, 0, none⟩ = some u) (h1 : u.oneCell' = true) (hn : n ≤ 10000) (hbase : base ≤ w.heap.size)
    (h : ∀ g cap w', w'.ownsRow base 27 1 (.slice (some ⟨g, 0, none⟩) (n + 1) cap) (n + 1) (xs ++ [u]) → w.grownBy w' v.ownBlock → (v.ownBlock = some g ∨ g = w.heap.size) → g < w'.heap.size → K (a.put o.dst (.slice (some ⟨g, 0, none⟩) (n + 1) cap)) w') :
    if Region.wanted o (yielded ops a.tmps) = true then Oper.wp Tryd.prog o a w K Q else E := by
  obtain ⟨i0, hi0, hz0, hz1, hz2⟩ := info_err
  refine step_append_lies w hgd s x _ ho base 27 i0 _ 1 16 Tryd.underlying47 hi0 hz0 hz1 hz2 rfl (by decide) v n xs hs hown ⟨nb, 0, none⟩ 1 c [u] hx rfl ?_ ?_ (by decide) (by unfold maxLen; omega) (by omega) hbase w.heap.size rfl h
  · intro j y hy
    cases j with
    | zero => cases hy; exact hc
    | succ j => cases hy
  · intro y hy
    rw [List.mem_singleton.1 hy]; exact h1
/-- what stands between the rounds of build's loop -/
structure MI (W wr : World) (a : Nat → Addr) (ks : List Nd) (i : Nat) (bs : List Value) (cv : Value) : Prop where
  bel : Below W.heap.size W wr
  mblk : wr.heap[W.heap.size]? = some (.cells #[cv] 72 (0, 0))
  own : wr.ownsRow (W.heap.size + 1) 27 1 cv i bs
  bt : ∃ G : Nat → Prop, (∀ j (h : j < ks.length), j < i → BtG wr a G (bs.getD j .nilIface) ks[j]) ∧ (∀ g, G g → W.heap.size + 1 ≤ g ∧ g < wr.heap.size) ∧ ∀ k, cv.ownBlock = some k → ¬ G k
theorem own_far {w w' : World} {B : Nat} {e : TypeId} {size n : Nat} {v : Value} {xs : List Value} (h : w.ownsRow B e size v n xs) (hb : Below w.heap.size w w') : w'.ownsRow B e size v n xs := by
  refine ⟨h.1, ?_⟩
  rcases h.2 with g | ⟨g, cap, cur, h1, h2, h3, h4⟩
  · exact Or.inl g
  · exact Or.inr ⟨g, cap, cur, h1, h2, (hb.block _ (Array.getElem?_eq_some_iff.1 h3).1).trans h3, h4⟩
theorem MI.start (W : World) (a : Nat → Addr) (ks : List Nd) : MI W (W.alloc (.cells #[.slice none 0 0] 72)) a ks 0 [] (.slice none 0 0) :=
  ⟨bel_alloc13 _ _, heap_alloc_new _ _, World.ownsRow_nil _ _ _ _, fun _ => False, fun j _ h => absurd h (by omega), fun g h => h.elim, fun k h => by cases h⟩
theorem MI.drew {W wr : World} {a : Nat → Addr} {ks : List Nd} {i : Nat} {bs : List Value} {cv : Value} (h : MI W wr a ks i bs cv) : MI W wr.drew a ks i bs cv := by
  obtain ⟨G, h1, h2, h3⟩ := h.bt
  exact ⟨h.bel.drew, h.mblk, h.own, G, fun j hj hi => (h1 j hj hi).keep (Nat.le_refl _) (fun _ _ _ => rfl) (fun _ h _ => h), h2, h3⟩
theorem MI.step {W wr w2 w4 : World} {a : Nat → Addr} {ks : List Nd} {i : Nat} {bs : List Value} {cv b : Value} {g cap : Nat} (h : MI W wr a ks i bs cv) (hi : i < ks.length) (hb2 : Below wr.heap.size wr w2) (hbt : BtG w2 a (fun g => wr.heap.size ≤ g) b ks[i])
    (ho : w4.ownsRow (W.heap.size + 1) 27 1 (.slice (some ⟨g, 0, none⟩) (i + 1) cap) (i + 1) (bs ++ [b])) (hg : (w2.alloc (.cells #[b] 27)).grownBy w4 cv.ownBlock) (hgg : cv.ownBlock = some g ∨ g = (w2.alloc (.cells #[b] 27)).heap.size) :
    MI W (w4.setCell ⟨W.heap.size, 0, none⟩ (.slice (some ⟨g, 0, none⟩) (i + 1) cap)) a ks (i + 1) (bs ++ [b]) (.slice (some ⟨g, 0, none⟩) (i + 1) cap) := by
  obtain ⟨G, h1, h2, h3⟩ := h.bt
  have hgm : W.heap.size < wr.heap.size := (Array.getElem?_eq_some_iff.1 h.mblk).1
  have hrow : ∀ k, cv.ownBlock = some k → W.heap.size + 1 ≤ k ∧ k < wr.heap.size := fun k hk => h.own.lt k hk
  have hs2 := hb2.size
  have hs3 : (w2.alloc (.cells #[b] 27)).heap.size = w2.heap.size + 1 := by simp
  have hs4 := hg.size
  have hblk : ∀ k, k < w2.heap.size → some k ≠ cv.ownBlock → w4.heap[k]? = w2.heap[k]? := fun k hk hne => (hg.block k (by omega) hne).trans ((bel_alloc13 w2 _).block k hk)
  have hset : ∀ k, k ≠ W.heap.size → (w4.setCell ⟨W.heap.size, 0, none⟩ (.slice (some ⟨g, 0, none⟩) (i + 1) cap)).heap[k]? = w4.heap[k]? := fun k hk => heap_setCell_other _ _ k _ hk
  have hs5 : (w4.setCell ⟨W.heap.size, 0, none⟩ (.slice (some ⟨g, 0, none⟩) (i + 1) cap)).heap.size = w4.heap.size := by simp
  have hlen : bs.length = i := by have := h.own.1; omega
  have ha := bel_alloc13 w2 (.cells #[b] 27)
  have hw5 := (Below.refl 0 w4).setCell (p := ⟨W.heap.size, 0, none⟩) (Nat.zero_le _) (.slice (some ⟨g, 0, none⟩) (i + 1) cap)
  refine ⟨⟨?_, ?_, ?_, ?_, fun k hk => ?_⟩, ?_, ?_, fun k => G k ∨ (wr.heap.size ≤ k ∧ k < w2.heap.size), ?_, ?_, ?_⟩
  · rw [hw5.os, hg.os, ha.os, hb2.os, h.bel.os]
  · rw [hw5.tape, hg.tape, ha.tape, hb2.tape, h.bel.tape]
  · rw [hw5.output, hg.output, ha.output, hb2.output, h.bel.output]
  · have := h.bel.size; omega
  · rw [hset k (by omega), hblk k (by omega) (fun e => by have := hrow k e.symm; omega), hb2.block k (by omega), h.bel.block k hk]
  · have hm4 : w4.heap[W.heap.size]? = some (.cells #[cv] 72 (0, 0)) := by
      rw [hblk _ (by omega) (fun e => by have := hrow _ e.symm; omega), hb2.block _ hgm]; exact h.mblk
    exact heap_setCell_same w4 W.heap.size 0 _ _ _ hm4
  · exact ownsRow_setCell_below ho (by show W.heap.size < W.heap.size + 1; omega) _
  · intro j hj hji
    rcases Nat.lt_or_ge j i with hlt | hge
    · have e : (bs ++ [b]).getD j .nilIface = bs.getD j .nilIface := by simp [List.getD, List.getElem?_append_left (by omega : j < bs.length)]
      rw [e]
      refine (h1 j hj hlt).keep (by omega) (fun k hk hkl => ?_) (fun k hk _ => Or.inl hk)
      have hk2 := h2 k hk
      rw [hset k (by omega), hblk k (by omega) (fun e => h3 k e.symm hk), hb2.block k hkl]
    · obtain rfl : j = i := by omega
      have e : (bs ++ [b]).getD j .nilIface = b := by rw [← hlen]; simp [List.getD]
      rw [e]
      refine hbt.keep (by omega) (fun k hk hkl => ?_) (fun k hk hkl => Or.inr ⟨hk, hkl⟩)
      rw [hset k (by omega), hblk k hkl (fun e => by have := hrow k e.symm; omega)]
  · intro k hk
    rcases hk with hk | hk
    · have := h2 k hk; omega
    · omega
  · intro k hk
    have hkg : k = g := by cases hk; rfl
    subst hkg
    intro hG
    rcases hgg with e | e
    · rcases hG with hG | hG
      · exact h3 _ e hG
      · have := hrow _ e; omega
    · rcases hG with hG | hG
      · have := h2 _ hG; omega
      · omega
theorem MI.mcell {W wr w2 w4 : World} {a : Nat → Addr} {ks : List Nd} {i : Nat} {bs : List Value} {cv b : Value} (h : MI W wr a ks i bs cv) (hb2 : Below wr.heap.size wr w2) (hg : (w2.alloc (.cells #[b] 27)).grownBy w4 cv.ownBlock) : w4.heap[W.heap.size]? = some (.cells #[cv] 72 (0, 0)) := by
  have hgm : W.heap.size < wr.heap.size := (Array.getElem?_eq_some_iff.1 h.mblk).1
  have hs2 := hb2.size
  have hs3 : (w2.alloc (.cells #[b] 27)).heap.size = w2.heap.size + 1 := by simp
  rw [hg.block _ (by omega) (fun e => by have := h.own.lt _ e.symm; omega), (bel_alloc13 w2 _).block _ (by omega), hb2.block _ hgm]
  exact h.mblk
theorem MI.done {w W wr : World} {a : Nat → Addr} {x : Nd} {bs : List Value} {cv : Value} (h : MI W wr a x.kids x.kids.length bs cv) (hk : x.kind = 5) (hl : x.kids.length ≤ 10000) (hw : w.heap.size ≤ W.heap.size) : BtG wr a (fun g => w.heap.size ≤ g) (.iface 70 (.pointer (some ⟨W.heap.size, 0, none⟩))) x := by
  obtain ⟨G, h1, h2, h3⟩ := h.bt
  obtain ⟨ao, cap, hcv, hx⟩ : ∃ ao cap, cv = .slice ao x.kids.length cap ∧ (0 < x.kids.length → ∃ b, ao = some ⟨b, 0, none⟩ ∧ b < wr.heap.size ∧ w.heap.size ≤ b ∧ (∀ i, i < x.kids.length → wr.cell? ⟨b, i, none⟩ = some (bs.getD i .nilIface)) ∧ ∃ cs q, wr.heap[b]? = some (.cells cs 27 q)) := by
    rcases h.own.2 with ⟨e, h0⟩ | ⟨g, cap, cur, e, hg, hb, _⟩
    · exact ⟨none, 0, by rw [e, h0], fun hp => by omega⟩
    · refine ⟨some ⟨g, 0, none⟩, cap, e, fun _ => ⟨g, rfl, (Array.getElem?_eq_some_iff.1 hb).1, by omega, fun i hi => ?_, cur, (0, 0), hb⟩⟩
      have ho := h.own
      rw [e] at ho
      rw [ho.cellAt i (by omega)]
      have hlen : bs.length = x.kids.length := by have := ho.1; omega
      simp [List.getD, hlen, hi]
  have hm := h.mblk
  rw [hcv] at hm
  exact .many x W.heap.size ao cap (fun i => bs.getD i .nilIface) hk hw hm hl hx (fun i hi => (h1 i hi hi).keep (Nat.le_refl _) (fun _ _ _ => rfl) (fun g hG _ => by have := h2 g hG; omega))
theorem fst_shape {w w' : World} {a : Nat → Addr} {ks : List Nd} {b : Value} (h0 : ks = [] → b = .nilIface) (h1 : ∀ h : 0 < ks.length, BtG w' a (fun g => w.heap.size ≤ g) b ks[0]) : (fstNil ks = true ∧ b = .nilIface) ∨ (fstNil ks = false ∧ ∃ u p, b = .iface u p) := by
  cases ks with
  | nil => exact Or.inl ⟨rfl, h0 rfl⟩
  | cons y l =>
    rcases (h1 (by simp)).bt.iface with ⟨h, hn⟩ | ⟨u, p, h, hn⟩
    · exact Or.inl ⟨hn, h⟩
    · exact Or.inr ⟨hn, u, p, h⟩
set_option maxHeartbeats 8000000 in
set_option maxRecDepth 100000 in
theorem build_all {a : Nat → Addr} : ∀ (N : Nat) (x : Nd), SizeOf.sizeOf x ≤ N → ndZ x ≤ 10000 → ∀ (w : World) (v : Value), Snt w a → NdSl w v x.kids →
    Calls Tryd.prog 10 #[ndV x v] w (BldP w a x) := by
  intro N
  induction N with
  | zero => intro x hx; have := sz_pos x; omega
  | succ N ih =>
    intro x hx hZ w v hS hv
    have hkid := fun i (h : i < x.kids.length) => Nd.kid_lt h
    have hkz := fun i (h : i < x.kids.length) => (show ndZ x.kids[i] ≤ 10000 from by
      have h1 := allZ_mem (List.getElem_mem h)
      rw [ndZ_eq] at hZ; omega)
    have hkl : x.kids.length ≤ 10000 := by
      have := allZ_len x.kids
      rw [ndZ_eq] at hZ; omega
    obtain ⟨k, c, pl, p, ks⟩ := x
    obtain ⟨ao, cap, rfl, hcap, hmax⟩ := hv.len
    have HV := hide hv
    have HS := hide hS
    simp only [Nd.kids] at hkid HV hcap hmax hkz hkl
    show Calls Tryd.prog 10 #[.agg #[.int .i64 k, .int .i64 c, .int .i64 pl, .string p, .slice ao ks.length cap]] w (BldP w a (.mk k c pl p ks))
    have K0 := hide ((Below.refl w.heap.size w).alloc (Nat.le_refl _) (.cells #[.int .i64 k, .int .i64 c, .int .i64 pl, .string p, .slice ao ks.length cap] 24))
    have IH := hide (fun i (h : i < ks.length) (w0 : World) (v0 : Value) (hs : Snt w0 a) (hn : NdSl w0 v0 ks[i].kids) => ih ks[i] (by have := hkid i h; omega) (hkz i h) w0 v0 hs hn)
    clear hv ih hx hkid hkz hS hZ
    by_cases k1 : k = 1
    · subst k1
      by_cases hc : c < 1 ∨ 11 < c
      · have HR := hide (show ndNil (.mk 1 c pl p ks) = true from decide_eq_true (Or.inr (Or.inr ⟨rfl, hc⟩)))
        have HN := hide (fun (u : World) (hs : Snt u a) => sentinel_none hs hc)
        clear hc
        go_enter Tryd.func10, Tryd.ntmps10
        go_wp2_with fail
        refine (HN.out _ (HS.out.below K0.out)).mono ?_
        rintro e w1 ⟨rfl, hb1⟩
        have K1 := hide (K0.out.trans (hb1.mono K0.out.size))
        clear hb1
        go_wp2
        go_ret
        exact ⟨⟨_, rfl, .nil _ HR.out⟩, K1.out⟩
      · obtain ⟨m, rfl⟩ : ∃ m : Nat, c = (m : Int) + 1 := ⟨(c - 1).toNat, by omega⟩
        have hm : m < 11 := by omega
        have HN := hide (fun (u : World) (hs : Snt u a) => sentinel_some hs hm)
        clear hc
        go_enter Tryd.func10, Tryd.ntmps10
        go_wp2_with fail
        refine (HN.out _ (HS.out.below K0.out)).mono ?_
        rintro e w1 ⟨rfl, hb1⟩
        have K1 := hide (K0.out.trans (hb1.mono K0.out.size))
        clear hb1
        go_wp2
        go_ret
        exact ⟨⟨_, rfl, .api _ m rfl hm rfl⟩, K1.out⟩
    · have k1' : (k == 1) = false := beq_eq_false_iff_ne.2 k1
      by_cases k2 : k = 2
      · subst k2
        have K1 := hide (K0.out.alloc K0.out.size (.cells #[.string ⟨#[111, 116, 104, 101, 114]⟩] 97))
        have HB := hide (show BldP w a (.mk 2 c pl p ks) (.returned (.iface 95 (.pointer (some ⟨w.heap.size + 1, 0, none⟩)))) ((w.alloc (.cells #[.int .i64 2, .int .i64 c, .int .i64 pl, .string p, .slice ao ks.length cap] 24)).alloc (.cells #[.string ⟨#[111, 116, 104, 101, 114]⟩] 97)) from
          ⟨⟨_, rfl, .other _ (w.heap.size + 1) ⟨#[111, 116, 104, 101, 114]⟩ rfl (by omega) (new_at (by simp)) (fun i hi => by have := snt_lt HS.out hi; omega)⟩, K1.out⟩)
        clear k1
        go_enter Tryd.func10, Tryd.ntmps10
        go_wp2
        go_ret
        exact HB.out
      · have k2' : (k == 2) = false := beq_eq_false_iff_ne.2 k2
        by_cases k3 : k = 3
        · subst k3
          have hb0 := fun (u : World) (hu : Below (w.alloc (.cells #[.int .i64 3, .int .i64 c, .int .i64 pl, .string p, .slice ao ks.length cap] 24)).heap.size (w.alloc (.cells #[.int .i64 3, .int .i64 c, .int .i64 pl, .string p, .slice ao ks.length cap] 24)) u) => box_node (w := w) u hu
          have HF := hide (fun (u : World) (hu : Below (w.alloc (.cells #[.int .i64 3, .int .i64 c, .int .i64 pl, .string p, .slice ao ks.length cap] 24)).heap.size (w.alloc (.cells #[.int .i64 3, .int .i64 c, .int .i64 pl, .string p, .slice ao ks.length cap] 24)) u) => first_any (a := a) ((HV.out.far K0.out).far hu) (fun h v0 hn => IH.out 0 h u v0 ((HS.out.below K0.out).below hu) hn))
          clear k1 k2
          go_enter Tryd.func10, Tryd.ntmps10
          go_wp2
          generalize w.alloc (.cells #[.int .i64 3, .int .i64 c, .int .i64 pl, .string p, .slice ao ks.length cap] 24) = W at *
          have CC : Hid (∀ u : World, Below W.heap.size W u → u.cell? ⟨w.heap.size, 2, none⟩ = some (.int .i64 pl) ∧ u.cell? ⟨w.heap.size, 3, none⟩ = some (.string p) ∧ u.cell? ⟨w.heap.size, 4, none⟩ = some (.slice ao ks.length cap)) := hide (fun u hu => ⟨(hb0 u hu).2.2.1, (hb0 u hu).2.2.2.1, (hb0 u hu).2.2.2.2⟩)
          clear hb0
          cases hfn : fstNil ks with
          | true =>
            have K : Below W.heap.size W W.drew := (Below.refl _ _).drew
            go_region_held3 (fun u => u.cell? ⟨w.heap.size, 2, none⟩ = some (.int .i64 pl) ∧ u.cell? ⟨w.heap.size, 3, none⟩ = some (.string p) ∧ u.cell? ⟨w.heap.size, 4, none⟩ = some (.slice ao ks.length cap)) (first | with_reducible exact CC.out _ K | with_reducible exact CC.out _ (Below.alloc K K.size _))
              (first
                | (go_at_call 33; (refine (HF.out _ K).mono ?_); rintro e w2 ⟨⟨b, rfl, hbi, hb0, hb1⟩, hb2⟩; have KD := hide K; have HB2 := hide hb2; have H0 := hide hb0; have H1 := hide hb1; have HSH := fst_shape hb0 hb1; replace K := K.trans (hb2.mono K.size); clear hb0 hb1 hb2 hbi; obtain rfl : b = .nilIface := (HSH.resolve_right (fun h => absurd (hfn.symm.trans h.1) (by decide))).2; clear HSH))
            have hsz := K0.out.size
            have hs2 := K.size
            have KZ := hide (K0.out.trans (K.mono hsz))
            have HB := hide (show BldP w a (.mk 3 c pl p ks) (.returned (.iface 41 (.pointer (some ⟨w2.heap.size, 0, none⟩)))) (w2.alloc (.cells #[.nilIface, .int .i64 pl, .string p] 45)) from by
              have bz := bel_alloc13 w2 (.cells #[.nilIface, .int .i64 pl, .string p] 45)
              refine ⟨⟨_, rfl, .flt _ w2.heap.size .nilIface rfl (by omega) (heap_alloc_new w2 _) (fun _ => rfl) (fun h => (H1.out h).keep bz.size (fun g _ hg => bz.block g hg) (fun g hG _ => by have := KD.out.size; omega))⟩, KZ.out.alloc (by omega) _⟩)
            clear CC HF
            go_wp2
            go_ret
            exact HB.out
          | false =>
            have K : Below W.heap.size W W.drew := (Below.refl _ _).drew
            go_region_held3 (fun u => u.cell? ⟨w.heap.size, 2, none⟩ = some (.int .i64 pl) ∧ u.cell? ⟨w.heap.size, 3, none⟩ = some (.string p) ∧ u.cell? ⟨w.heap.size, 4, none⟩ = some (.slice ao ks.length cap)) (first | with_reducible exact CC.out _ K | with_reducible exact CC.out _ (Below.alloc K K.size _))
              (first
                | (go_at_call 33; (refine (HF.out _ K).mono ?_); rintro e w2 ⟨⟨b, rfl, hbi, hb0, hb1⟩, hb2⟩; have KD := hide K; have HB2 := hide hb2; have H0 := hide hb0; have H1 := hide hb1; have HSH := fst_shape hb0 hb1; replace K := K.trans (hb2.mono K.size); clear hb0 hb1 hb2 hbi; obtain ⟨bu, bp, rfl⟩ := (HSH.resolve_left (fun h => absurd (hfn.symm.trans h.1) (by decide))).2; clear HSH))
            have hsz := K0.out.size
            have hs2 := K.size
            have KZ := hide (K0.out.trans (K.mono hsz))
            have HB := hide (show BldP w a (.mk 3 c pl p ks) (.returned (.iface 41 (.pointer (some ⟨w2.heap.size, 0, none⟩)))) (w2.alloc (.cells #[(.iface bu bp), .int .i64 pl, .string p] 45)) from by
              have bz := bel_alloc13 w2 (.cells #[(.iface bu bp), .int .i64 pl, .string p] 45)
              refine ⟨⟨_, rfl, .flt _ w2.heap.size (.iface bu bp) rfl (by omega) (heap_alloc_new w2 _) (fun h => H0.out h) (fun h => (H1.out h).keep bz.size (fun g _ hg => bz.block g hg) (fun g hG _ => by have := KD.out.size; omega))⟩, KZ.out.alloc (by omega) _⟩)
            clear CC HF
            go_wp2
            go_ret
            exact HB.out
        · have k3' : (k == 3) = false := beq_eq_false_iff_ne.2 k3
          by_cases k4 : k = 4
          · subst k4
            have hb0 := box_node (w := w) (k := 4) (c := c) (a := pl) (p := p) (v := .slice ao ks.length cap) _ (Below.refl _ _)
            obtain ⟨d0, d1, d2, d3, d4⟩ := hb0
            have HF := hide (first_any (a := a) (HV.out.far K0.out) (fun h v0 hn => IH.out 0 h _ v0 (HS.out.below K0.out) hn))
            clear k1 k2 k3
            go_enter Tryd.func10, Tryd.ntmps10
            go_wp2_with fail
            refine HF.out.mono ?_
            rintro e w2 ⟨⟨b, rfl, hbi, hb0, hb1⟩, hb2⟩
            have hsz := K0.out.size
            have hs2 := hb2.size
            have hs3 : (w.alloc (.cells #[.int .i64 4, .int .i64 c, .int .i64 pl, .string p, .slice ao ks.length cap] 24)).heap.size = w.heap.size + 1 := by simp
            have KZ := hide (K0.out.trans (hb2.mono hsz))
            have HB := hide (show BldP w a (.mk 4 c pl p ks) (.returned (.iface 67 (.pointer (some ⟨w2.heap.size, 0, none⟩)))) (w2.alloc (.cells #[b] 69)) from by
              have bz := bel_alloc13 w2 (.cells #[b] 69)
              refine ⟨⟨_, rfl, .wraps _ w2.heap.size b rfl (by omega) (heap_alloc_new w2 _) (fun h => hb0 h) (fun h => (hb1 h).keep bz.size (fun g _ hg => bz.block g hg) (fun g hG _ => by omega))⟩, KZ.out.alloc (by omega) _⟩)
            clear hb0 hb1 hb2 HF
            rcases hbi with rfl | ⟨bu, bp, rfl⟩
            · go_wp2
              go_ret
              exact HB.out
            · go_wp2
              go_ret
              exact HB.out
          · have k4' : (k == 4) = false := beq_eq_false_iff_ne.2 k4
            by_cases k5 : k = 5
            · subst k5
              have hb0 := fun (u : World) (hu : Below (w.alloc (.cells #[.int .i64 5, .int .i64 c, .int .i64 pl, .string p, .slice ao ks.length cap] 24)).heap.size (w.alloc (.cells #[.int .i64 5, .int .i64 c, .int .i64 pl, .string p, .slice ao ks.length cap] 24)) u) => box_node (w := w) u hu
              have hws : (w.alloc (.cells #[.int .i64 5, .int .i64 c, .int .i64 pl, .string p, .slice ao ks.length cap] 24)).heap.size = w.heap.size + 1 := by simp
              have HSW := hide (HS.out.below K0.out)
              have HVW := hide (HV.out.far K0.out)
              clear k1 k2 k3 k4
              go_enter Tryd.func10, Tryd.ntmps10
              go_wp2
              have MS := hide (MI.start (w.alloc (.cells #[.int .i64 5, .int .i64 c, .int .i64 pl, .string p, .slice ao ks.length cap] 24)) a ks)
              generalize w.alloc (.cells #[.int .i64 5, .int .i64 c, .int .i64 pl, .string p, .slice ao ks.length cap] 24) = W at *
              have HB0 := hide hb0
              clear hb0
              go_loopw [4] (fun q wr => ∃ (i : Nat) (bs : List Value) (cv : Value), q = .int .i64 i ∧ i ≤ ks.length ∧ Hid (MI W wr a ks i bs cv)) (fun q _ => ks.length - (intOf q).toNat)
              case atStart => exact ⟨0, [], _, rfl, by omega, MS⟩
              case round =>
                obtain ⟨i, bs, cv, rfl, hi, HM⟩ := hrel
                obtain ⟨d0, d1, d2, d3, d4⟩ := HB0.out wr HM.out.bel
                by_cases hil : i < ks.length
                · have q1 : (i : Int) < (ks.length : Int) := by omega
                  have q0 : (0 : Int) ≤ (i : Int) := by omega
                  have w2' : IntKind.i64.wrap ((i : Int) + 1) = (i : Int) + 1 := by rw [IntKind.wrap_i64]; omega
                  obtain ⟨cl, cc, hcv⟩ : ∃ cl cc, cv = .slice cl i cc := by
                    rcases HM.out.own.2 with ⟨e, h0⟩ | ⟨g, cap, cur, e, _⟩
                    · exact ⟨none, 0, by rw [e, h0]⟩
                    · exact ⟨_, _, e⟩
                  subst hcv
                  have MD := hide HM.out.drew
                  obtain ⟨b, off, vi, rfl, hbl, hcc, hks⟩ := NdSl.at (HVW.out.far MD.out.bel) rfl hil
                  obtain ⟨z0, z1, z2, z3, z4⟩ := hcc
                  have y0 : wr.cell? ⟨b, off + i * 5, none⟩ = some (.int .i64 ks[i].kind) := z0
                  have hC := IH.out i hil wr.drew vi (HSW.out.below MD.out.bel) hks
                  unfold ndV at hC
                  have HC := hide hC
                  have hgm := (Array.getElem?_eq_some_iff.1 HM.out.mblk).1
                  have cm : wr.cell? ⟨w.heap.size + 1, 0, none⟩ = some (.slice cl i cc) := by rw [← hws]; exact (Lib.cell_of_heap HM.out.mblk 0).trans rfl
                  have cmd : wr.drew.cell? ⟨w.heap.size + 1, 0, none⟩ = some (.slice cl i cc) := cm
                  have d4d : wr.drew.cell? ⟨w.heap.size, 4, none⟩ = some (.slice (some ⟨b, off, none⟩) ks.length cap) := d4
                  have HSN : Hid (BldP wr.drew a ks[i] = BldP wr.drew a ks[i]) := hide rfl
                  have hb3 := fun (w2 : World) (bb : Value) (h : BtG w2 a (fun g => wr.drew.heap.size ≤ g) bb ks[i]) => h.bt.iface
                  have HB3 := hide hb3
                  have HST := hide (fun (w2 w4 : World) (bb : Value) (g gcap : Nat) (hb2 : Below wr.drew.heap.size wr.drew w2) (hbt : BtG w2 a (fun g => wr.drew.heap.size ≤ g) bb ks[i]) (ho : w4.ownsRow (W.heap.size + 1) 27 1 (.slice (some ⟨g, 0, none⟩) (i + 1) gcap) (i + 1) (bs ++ [bb])) (hg : (w2.alloc (.cells #[bb] 27)).grownBy w4 (Value.slice cl i cc).ownBlock) (hgg : (Value.slice cl i cc).ownBlock = some g ∨ g = (w2.alloc (.cells #[bb] 27)).heap.size) => MI.step MD.out hil hb2 hbt ho hg hgg)
                  have hyn : ndNil ks[i] = true ∨ ndNil ks[i] = false := by cases ndNil ks[i] <;> simp
                  generalize ks[i] = y at *
                  obtain ⟨ao2, cap2, rfl, _, _⟩ := hks.len
                  clear hb3 hC HSN hks hbl
                  rcases hyn with hyn | hyn
                  · go_wp2
                    go_region_law (first
                      | (refine step_build rfl (.tmp 56) _ rfl _ rfl _ HC.out ?_; rintro e w2 ⟨⟨bb, rfl, hbt⟩, hb2⟩; refine ⟨_, rfl, ?_⟩; obtain rfl : bb = .nilIface := ((HB3.out _ _ hbt).resolve_right (fun h => by obtain ⟨_, _, _, h⟩ := h; rw [h] at hyn; cases hyn)).1; have HBT := hide hbt; have HB2 := hide hb2; have cm2 : w2.cell? ⟨w.heap.size + 1, 0, none⟩ = some (.slice cl i cc) := (hb2.cell (p := ⟨w.heap.size + 1, 0, none⟩) (by rw [← hws]; exact hgm)).trans cmd; have cm3 : ∀ o, (w2.alloc o).cell? ⟨w.heap.size + 1, 0, none⟩ = some (.slice cl i cc) := (fun o => ((bel_alloc13 w2 o).cell (p := ⟨w.heap.size + 1, 0, none⟩) (by have h9 := hb2.size; have h8 : wr.drew.heap.size = wr.heap.size := rfl; show w.heap.size + 1 < _; omega)).trans cm2); clear hbt hb2)
                      | (refine step_append_err rfl (.tmp 51) (.tmp 58) rfl (W.heap.size + 1) _ i bs rfl ((own_far MD.out.own HB2.out).alloc _) w2.heap.size 1 .nilIface rfl (by simp) rfl (by omega) (by have h9 := HB2.out.size; have h8 : wr.drew.heap.size = wr.heap.size := rfl; simp; omega) ?_; intro g gcap w4 ho hg hgg hgl; have HO := hide ho; have HG := hide hg; have HGG := hide hgg; have hm4 := MI.mcell MD.out HB2.out hg; rw [hws] at hm4; have cm4 : w4.cell? ⟨w.heap.size + 1, 0, none⟩ = some (.slice cl i cc) := (Lib.cell_of_heap hm4 0).trans rfl; have fm4 : w4.frozen? ⟨w.heap.size + 1, 0, none⟩ = false := Lib.frozen_of_heap hm4 0; clear ho hg hgg hm4))
                    all_goals
                      have HN := hide (HST.out _ _ _ g gcap HB2.out HBT.out HO.out HG.out HGG.out)
                      rw [hws] at HN
                      go_wp2
                      go_roundw
                      case rel => exact ⟨i + 1, bs ++ [.nilIface], _, by simp, by omega, HN⟩
                      case measure => simp [intOf]; omega
                  · go_wp2
                    go_region_law (first
                      | (refine step_build rfl (.tmp 56) _ rfl _ rfl _ HC.out ?_; rintro e w2 ⟨⟨bb, rfl, hbt⟩, hb2⟩; refine ⟨_, rfl, ?_⟩; obtain ⟨bu, bp, rfl, _⟩ := (HB3.out _ _ hbt).resolve_left (fun h => by rw [h.2] at hyn; cases hyn); have HBT := hide hbt; have HB2 := hide hb2; have cm2 : w2.cell? ⟨w.heap.size + 1, 0, none⟩ = some (.slice cl i cc) := (hb2.cell (p := ⟨w.heap.size + 1, 0, none⟩) (by rw [← hws]; exact hgm)).trans cmd; have cm3 : ∀ o, (w2.alloc o).cell? ⟨w.heap.size + 1, 0, none⟩ = some (.slice cl i cc) := (fun o => ((bel_alloc13 w2 o).cell (p := ⟨w.heap.size + 1, 0, none⟩) (by have h9 := hb2.size; have h8 : wr.drew.heap.size = wr.heap.size := rfl; show w.heap.size + 1 < _; omega)).trans cm2); clear hbt hb2)
                      | (refine step_append_err rfl (.tmp 51) (.tmp 58) rfl (W.heap.size + 1) _ i bs rfl ((own_far MD.out.own HB2.out).alloc _) w2.heap.size 1 (.iface bu bp) rfl (by simp) rfl (by omega) (by have h9 := HB2.out.size; have h8 : wr.drew.heap.size = wr.heap.size := rfl; simp; omega) ?_; intro g gcap w4 ho hg hgg hgl; have HO := hide ho; have HG := hide hg; have HGG := hide hgg; have hm4 := MI.mcell MD.out HB2.out hg; rw [hws] at hm4; have cm4 : w4.cell? ⟨w.heap.size + 1, 0, none⟩ = some (.slice cl i cc) := (Lib.cell_of_heap hm4 0).trans rfl; have fm4 : w4.frozen? ⟨w.heap.size + 1, 0, none⟩ = false := Lib.frozen_of_heap hm4 0; clear ho hg hgg hm4))
                    all_goals
                      have HN := hide (HST.out _ _ _ g gcap HB2.out HBT.out HO.out HG.out HGG.out)
                      rw [hws] at HN
                      go_wp2
                      go_roundw
                      case rel => exact ⟨i + 1, bs ++ [(.iface bu bp)], _, by simp, by omega, HN⟩
                      case measure => simp [intOf]; omega
                · have q1 : ¬ ((i : Int) < (ks.length : Int)) := by omega
                  obtain rfl : i = ks.length := by omega
                  have HR := hide (show BldP w a (.mk 5 c pl p ks) (.returned (.iface 70 (.pointer (some ⟨W.heap.size, 0, none⟩)))) wr from ⟨⟨_, rfl, MI.done (x := .mk 5 c pl p ks) HM.out rfl hkl (by omega)⟩, K0.out.trans (HM.out.bel.mono K0.out.size)⟩)
                  rw [hws] at HR
                  clear d0 d1 d2 d3
                  go_wp2
                  go_ret
                  exact HR.out
            · have k5' : (k == 5) = false := beq_eq_false_iff_ne.2 k5
              by_cases k6 : k = 6
              · subst k6
                clear k1 k2 k3 k4 k5
                go_enter Tryd.func10, Tryd.ntmps10
                go_wp2
                go_ret
                exact ⟨⟨_, rfl, .nilf _ rfl⟩, K0.out⟩
              · have k6' : (k == 6) = false := beq_eq_false_iff_ne.2 k6
                by_cases k7 : k = 7
                · subst k7
                  have K1 := hide (K0.out.alloc K0.out.size (.cells #[.int .i64 c] 75))
                  have HB := hide (show BldP w a (.mk 7 c pl p ks) (.returned (.iface 73 (.pointer (some ⟨w.heap.size + 1, 0, none⟩)))) ((w.alloc (.cells #[.int .i64 7, .int .i64 c, .int .i64 pl, .string p, .slice ao ks.length cap] 24)).alloc (.cells #[.int .i64 c] 75)) from
                    ⟨⟨_, rfl, .claim _ (w.heap.size + 1) rfl (by omega) (new_at (by simp))⟩, K1.out⟩)
                  clear k1 k2 k3 k4 k5 k6
                  go_enter Tryd.func10, Tryd.ntmps10
                  go_wp2
                  go_ret
                  exact HB.out
                · have k7' : (k == 7) = false := beq_eq_false_iff_ne.2 k7
                  have HR := hide (show ndNil (.mk k c pl p ks) = true from decide_eq_true (show k < 1 ∨ 7 < k ∨ _ from by omega))
                  clear k1 k2 k3 k4 k5 k6 k7
                  go_enter Tryd.func10, Tryd.ntmps10
                  go_wp2
                  go_ret
                  exact ⟨⟨_, rfl, .nil _ HR.out⟩, K0.out⟩

end Go.Proofs.YtbkgphglojjllaaDoor
