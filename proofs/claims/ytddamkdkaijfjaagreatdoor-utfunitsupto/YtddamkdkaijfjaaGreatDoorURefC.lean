/- ref09: Steps, Codes, Cmp -/
import Derived.Test.YtddamkdkaijfjaaGreatDoorURefB
import Derived.OwnWalk
namespace Go.Proofs.YtddamkdkaijfjaaGreatDoor
open Go.RowKit
set_option linter.unusedVariables false

/-- a step's cells -/
def sVals (k : Nat) (q : Int) : List Value := [.int .i64 k, .int .i64 ((sEnc q).length : Nat), .int .i64 (if q < 2000000 then q else q - 2000000), .bool (decide (q < 2000000))]
def uSV : Nat → List Int → List Value
  | _, [] => []
  | k, q :: qs => sVals k q ++ uSV (k + (sEnc q).length) qs
theorem uSV_append (k : Nat) (xs ys : List Int) : uSV k (xs ++ ys) = uSV k xs ++ uSV (k + (xs.flatMap sEnc).length) ys := by
  induction xs generalizing k with
  | nil => simp [uSV]
  | cons p xs ih => rw [List.cons_append, uSV, ih, uSV, List.flatMap_cons, List.length_append, List.append_assoc, Nat.add_assoc]
theorem uSV_len (k : Nat) (xs : List Int) : (uSV k xs).length = xs.length * 4 := by
  induction xs generalizing k with
  | nil => rfl
  | cons p xs ih => rw [uSV, List.length_append, ih, List.length_cons]; simp [sVals]; omega
theorem uStepV_of {l : List Int} {q : Int} {qs : List Int} {k : Nat} (hb : uByt l) (h : USteps l (q :: qs)) : uStepV k (l.headD 0) (uDec l) = .agg (sVals k q).toArray := by
  cases h with
  | @good _ _ _ n a b c =>
    have hc := uDec_cases hb (by rw [a]; exact b)
    rw [a] at hc ⊢
    obtain ⟨h1, h2, h3⟩ := hc
    simp only at h1 h2 h3
    have hlt := uPt_lt h1
    have e : (sEnc q).length = n := by unfold sEnc; rw [if_pos hlt]; exact h2
    rw [uStepV_yes _ _ b]
    unfold sVals
    rw [e, if_pos hlt, decide_eq_true hlt]
  | @bad a r _ c d =>
    have ha := hb a List.mem_cons_self
    rw [uDec_zero c, uStepV_no]
    have e : (sEnc (2000000 + a)).length = 1 := by unfold sEnc; rw [if_neg (by omega)]; rfl
    unfold sVals
    rw [e, if_neg (by omega), decide_eq_false (by omega), show 2000000 + a - 2000000 = a by omega]
    rfl
theorem uhead_lb {es : List Int} {k : Nat} (h : k < es.length) : (es.drop k).headD 0 = Nt.lb es k := by rw [udrop_lb h]; rfl
theorem sEnc_le {q : Int} : (sEnc q).length ≤ 4 := by
  unfold sEnc; split
  · exact uEnc_le q
  · simp
theorem uowns_below {B : Nat} {e : TypeId} {k : Nat} {v : Value} {n : Nat} {xs : List Value} {w w' : World} (h : w.ownsRow B e k v n xs) (hb : Below w.heap.size w w') : w'.ownsRow B e k v n xs := by
  refine ⟨h.1, ?_⟩
  rcases h.2 with a | ⟨g, cap, cur, a, b, c, d⟩
  · exact .inl a
  · exact .inr ⟨g, cap, cur, a, b, (hb.block g (Array.getElem?_eq_some_iff.1 c).1).trans c, d⟩
theorem own_grows4 {w0 w w' : World} {B : Nat} {E : TypeId} {s n : Nat} {v : Value} {xs : List Value} (h : Below B w0 w) (hB : B ≤ w.heap.size) (ho : w.ownsRow B E s v n xs) (hg : w.grownBy w' v.ownBlock) : Below B w0 w' :=
  h.grown hg hB (fun j ej => by
    rcases ho.2 with ⟨rfl, _⟩ | ⟨g, cap, cur, rfl, hb, _, _⟩
    · simp [Value.ownBlock] at ej
    · obtain rfl : g = j := by simpa [Value.ownBlock] using ej
      exact hb)
theorem own_lt {w : World} {B : Nat} {E : TypeId} {s n : Nat} {v : Value} {xs : List Value} (ho : w.ownsRow B E s v n xs) {g : Nat} (h : v.ownBlock = some g) : g < w.heap.size := by
  rcases ho.2 with ⟨rfl, _⟩ | ⟨g', cap, cur, rfl, hb, hc, _⟩
  · simp [Value.ownBlock] at h
  · obtain rfl : g' = g := by simpa [Value.ownBlock] using h
    exact (Array.getElem?_eq_some_iff.1 hc).1
theorem box_kept {w w2 : World} {o o2 : Obj} {r : Option Nat} (hg : ((w.alloc o).alloc o2).grownBy w2 r) (hr : r ≠ some w.heap.size) : w2.heap[w.heap.size]? = some o := by
  rw [hg.block w.heap.size (by simp; omega) (fun e => hr e.symm)]
  rw [Below.heap_alloc _ _ _ (by simp)]
  exact World.alloc_heap_new w o
theorem four_new (w : World) (a b c d : Value) (t : TypeId) : ∀ j u, [a, b, c, d][j]? = some u → (w.alloc (.cells #[a, b, c, d] t)).cell? ((⟨w.heap.size, 0, none⟩ : Addr).add j) = some u := by
  intro j u hj
  match j, hj with
  | 0, hj => simp at hj; subst hj; simp [Addr.add]
  | 1, hj => simp at hj; subst hj; simp [Addr.add]
  | 2, hj => simp at hj; subst hj; simp [Addr.add]
  | 3, hj => simp at hj; subst hj; simp [Addr.add]
theorem Tryz.infoStep : (Tryz.prog.info? 61).map (fun i => (i.zero, i.size, i.bytes)) = some (some (.agg #[.int .i64 0, .int .i64 0, .int .i64 0, .bool false]), 4, 32) := by kernel_rfl
theorem Tryz.infoInt : (Tryz.prog.info? 3).map (fun i => (i.zero, i.size, i.bytes)) = some (some (.int .i64 0), 1, 8) := by kernel_rfl

set_option maxRecDepth 100000 in
set_option maxHeartbeats 4000000 in
theorem rsteps_any {w : World} {s : ByteArray} {es qs : List Int} (hb : uByt es) (hs : s = strOfNums es) (hl : es.length ≤ 1099511627776) (hS : USteps es qs) :
    Calls Tryz.prog 24 #[.string s] w fun e w' => ∃ v, e = .returned v ∧ w'.ownsRow w.heap.size 61 4 v qs.length (uSV 0 qs) ∧ Below w.heap.size w w' := by
  have hsz : s.size = es.length := by rw [hs, strOfNums_size]
  have HF := hide (fun (k : Nat) hk w => rfirst_any (w := w) (k := k) hb hs (by omega) hk)
  have HS := hide hS
  have HB := hide (fun k => hb.drop k)
  obtain ⟨L, hL⟩ : ∃ L, es.length = L := ⟨_, rfl⟩
  rw [hL] at hsz hl
  have HL := hide hL
  clear hs hb hL hS
  obtain ⟨i0, hi, hz0, hz1, hz2⟩ := info_parts Tryz.infoStep
  go_enter Tryz.func24, Tryz.ntmps24
  go_wp2_with fail
  go_loopg [3, 4] L (fun c v i wr => ∃ (k : Nat) (ds rest : List Int), i = .int .i64 k ∧ c = L - k ∧ k ≤ L ∧ ds.length ≤ k ∧ Hid (qs = ds ++ rest) ∧ Hid ((ds.flatMap sEnc).length = k) ∧ Hid (USteps (es.drop k) rest) ∧ Hid (wr.ownsRow w.heap.size 61 4 v ds.length (uSV 0 ds)) ∧ Below w.heap.size w wr)
  case atStart => exact ⟨0, [], qs, rfl, by simp, by omega, by simp, hide rfl, hide rfl, HS, hide (World.ownsRow_nil _ _ _ _), Below.refl _ _⟩
  case round =>
    obtain ⟨k, ds, rest, rfl, hg, hkL, hdk, hp, hk, hst, hrow, hbr⟩ := hrel
    cases rest with
    | nil =>
      have hke : k = L := by
        have := congrArg List.length (hst.out.nil_of)
        rw [List.length_drop, HL.out] at this
        simp at this; omega
      subst hke
      have q : ¬ (k : Int) < (k : Int) := by omega
      go_wp2
      go_ret
      have e : qs = ds := by rw [hp.out, List.append_nil]
      refine ⟨_, rfl, ?_, hbr⟩
      rw [e]; exact hrow.out
    | cons q rest =>
      obtain ⟨h1, h2, h3, h4, h5⟩ := USteps.step (HB.out k) hst.out
      rw [List.length_drop, HL.out] at h5
      rw [List.drop_drop] at h2
      have HFk := hide (HF.out k (by rw [HL.out]; omega))
      rw [← uhead_lb (by rw [HL.out]; omega), uStepV_of (HB.out k) hst.out] at HFk
      have HSN := hide (show uSV 0 (ds ++ [q]) = uSV 0 ds ++ sVals k q by rw [uSV_append, hk.out, Nat.zero_add]; simp [uSV])
      have HKN := hide (show ((ds ++ [q]).flatMap sEnc).length = k + (sEnc q).length by rw [List.flatMap_append, List.length_append, hk.out]; simp)
      unfold sVals at HFk HSN
      obtain ⟨n, hn⟩ : ∃ n, (sEnc q).length = n := ⟨_, rfl⟩
      rw [hn] at HFk HSN HKN h2 h4 h5
      obtain ⟨pt, hpt⟩ : ∃ x, (if q < 2000000 then q else q - 2000000) = x := ⟨_, rfl⟩
      obtain ⟨gd, hgd⟩ : ∃ x, decide (q < 2000000) = x := ⟨_, rfl⟩
      rw [hpt, hgd] at HFk HSN
      have H2 := hide h2
      have qq : (k : Int) < (L : Int) := by omega
      clear h1 h2 h3 hn hpt hgd HF
      have hsz1 := hbr.size
      go_wp2_with (first
        | (go_at_call 89; refine (HFk.out _).mono ?_; rintro e w1 ⟨rfl, hB1⟩; have hz3 := hB1.size; have hrow1 := hide (uowns_below hrow.out hB1); have hbr1 := hide (hbr.trans (hB1.mono hsz1)))
        | (at_builtin; refine wpList_append_own _ rfl _ _ 58 rfl w.heap.size 61 i0 (.agg #[.int .i64 0, .int .i64 0, .int .i64 0, .bool false]) 4 32 Tryz.underlying58 hi hz0 hz1 hz2 rfl (by decide) u3 _ _ rfl ((hrow1.out.alloc _).alloc _) ⟨w1.heap.size + 1, 0, none⟩ 1 1 [.int .i64 k, .int .i64 n, .int .i64 pt, .bool gd] rfl rfl (by have := four_new (w1.alloc (.cells #[.int .i64 k, .int .i64 n, .int .i64 pt, .bool gd] 61)) (.int .i64 k) (.int .i64 n) (.int .i64 pt) (.bool gd) 61; rw [World.size_alloc] at this; exact this) (by simp [Value.oneCell']) (by unfold maxLen; omega) (by omega) (by simp; omega) ?_; intro v' w2 hown' hgrow _; have HO := hide hown'; have HB2 := hide (own_grows4 ((hbr1.out.alloc (by omega) _).alloc (by simp; omega) _) (by simp; omega) ((hrow1.out.alloc _).alloc _) hgrow); have hbx := box_kept hgrow (fun e => by have := own_lt hrow.out e; omega); have hc1 : w2.cell? ⟨w1.heap.size, 1, none⟩ = some (.int .i64 n) := (cell_of_row w2 _ _ _ _ _ hbx).trans rfl; clear hown' hbx hgrow))
      go_roundg (L - (k + n))
      case measure => omega
      case rel => exact ⟨k + n, ds ++ [q], rest, by simp, rfl, by omega, by simp; omega, hide (by rw [hp.out]; simp), HKN, H2, hide (by rw [HSN.out]; simpa using HO.out), HB2.out⟩

theorem owns_base {B B' : Nat} {e : TypeId} {k : Nat} {v : Value} {n : Nat} {xs : List Value} {w : World} (h : w.ownsRow B e k v n xs) (hb : B' ≤ B) : w.ownsRow B' e k v n xs := by
  refine ⟨h.1, ?_⟩
  rcases h.2 with a | ⟨g, cap, cur, a, b, c⟩
  · exact .inl a
  · exact .inr ⟨g, cap, cur, a, by omega, c⟩
theorem sVals_get {qs : List Int} (k : Nat) {j : Nat} {q : Int} (h : qs[j]? = some q) : (uSV k qs)[j * 4 + 2]? = some (.int .i64 (if q < 2000000 then q else q - 2000000)) ∧ (uSV k qs)[j * 4 + 3]? = some (.bool (decide (q < 2000000))) := by
  induction qs generalizing k j with
  | nil => simp at h
  | cons a qs ih =>
    cases j with
    | zero => simp at h; subst h; exact ⟨rfl, rfl⟩
    | succ j =>
      obtain ⟨h1, h2⟩ := ih (k + (sEnc a).length) (j := j) (by simpa using h)
      rw [uSV]
      have e : (sVals k a).length = 4 := rfl
      constructor
      · rw [List.getElem?_append_right (by rw [e]; omega), e, show (j + 1) * 4 + 2 - 4 = j * 4 + 2 by omega]; exact h1
      · rw [List.getElem?_append_right (by rw [e]; omega), e, show (j + 1) * 4 + 3 - 4 = j * 4 + 3 by omega]; exact h2
/-- the row of steps, read -/
theorem steps_cells {w : World} {B n : Nat} {E : TypeId} {v : Value} {xs : List Value} (h : w.ownsRow B E 4 v n xs) : ∃ ao cap, v = .slice ao n cap ∧ n ≤ cap ∧ cap ≤ maxLen ∧ (0 < n → ∃ g, ao = some ⟨g, 0, none⟩ ∧ g < w.heap.size ∧ ∀ j u, xs[j]? = some u → w.cell? ⟨g, j, none⟩ = some u) := by
  rcases h.2 with ⟨rfl, h2⟩ | ⟨g, cap, cur, rfl, h3, h4, h5, h6, h7, h8⟩
  · subst h2
    exact ⟨none, 0, rfl, Nat.le_refl _, by unfold maxLen; omega, fun h => absurd h (by simp)⟩
  · refine ⟨_, cap, rfl, h5, h6, fun _ => ⟨g, rfl, (Array.getElem?_eq_some_iff.1 h4).1, fun j u hu => ?_⟩⟩
    rw [cell_of_row w g j _ _ _ h4]
    rw [← h8] at hu
    have hj : j < n * 4 := by
      have := (List.getElem?_eq_some_iff.1 hu).1
      rw [List.length_take] at this
      omega
    rw [List.getElem?_take_of_lt hj, Array.getElem?_toList] at hu
    exact hu

theorem uCodes_len (qs : List Int) : (uCodes qs).length ≤ 2 * qs.length := by
  induction qs with
  | nil => simp [uCodes]
  | cons q qs ih =>
    rw [uCodes_cons, List.length_append, List.length_cons]
    have : (sU q).length ≤ 2 := by unfold sU; split; exact uU_len q; simp
    omega
theorem uCodes_snoc {qs : List Int} {j : Nat} {q : Int} (h : qs[j]? = some q) : uCodes (qs.take (j + 1)) = uCodes (qs.take j) ++ sU q := by
  rw [List.take_add_one, h, uCodes_append]
  simp [uCodes]
theorem USteps.len {l qs : List Int} (hb : uByt l) (h : USteps l qs) : qs.length ≤ l.length := by
  rw [(h.ok hb).2]
  clear h
  induction qs with
  | nil => simp
  | cons q qs ih =>
    rw [List.flatMap_cons, List.length_append, List.length_cons]
    have : 0 < (sEnc q).length := by unfold sEnc; split; exact uEnc_pos q; simp
    omega

set_option maxRecDepth 100000 in
set_option maxHeartbeats 4000000 in
theorem rcodes_any {w : World} {s : ByteArray} {es qs : List Int} (hb : uByt es) (hs : s = strOfNums es) (hl : es.length ≤ 1099511627776) (hS : USteps es qs) :
    Calls Tryz.prog 80 #[.string s] w fun e w' => ∃ v, e = .returned v ∧ w'.ownsRow w.heap.size 3 1 v (uCodes qs).length ((uCodes qs).map (Value.int .i64)) ∧ Below w.heap.size w w' := by
  have HST := hide (fun w => rsteps_any (w := w) hb hs hl hS)
  have hok := hide (hS.ok hb).1
  have hlen : qs.length ≤ 1099511627776 := by have := hS.len hb; omega
  clear hs hb hl hS
  obtain ⟨i0, hi, hz0, hz1, hz2⟩ := info_parts Tryz.infoInt
  go_enter Tryz.func80, Tryz.ntmps80
  go_wp2_with fail
  refine (HST.out _).mono ?_
  rintro e w0 ⟨v0, rfl, hrow0, hB0⟩
  obtain ⟨ao, cap, rfl, hcap, hcm, hcells⟩ := steps_cells hrow0
  unfold maxLen at hcm
  have HC := hide hcells
  have HR0 := hide hrow0
  clear hcells hrow0 HST
  go_wp2_with fail
  go_loopg [4, 5] qs.length (fun c v i wr => ∃ (j : Nat), j ≤ qs.length ∧ i = .int .i64 j ∧ c = qs.length - j ∧ Hid (wr.ownsRow w0.heap.size 3 1 v (uCodes (qs.take j)).length ((uCodes (qs.take j)).map (Value.int .i64))) ∧ Below w0.heap.size w0 wr)
  case atStart => exact ⟨0, by omega, rfl, by omega, hide (World.ownsRow_nil _ _ _ _), Below.refl _ _⟩
  case round =>
    obtain ⟨j, hj, rfl, hg, hrow, hbr⟩ := hrel
    have hz3 := hbr.size
    by_cases hlt : j < qs.length
    · obtain ⟨q, hq⟩ : ∃ q, qs[j]? = some q := ⟨_, List.getElem?_eq_getElem hlt⟩
      obtain ⟨g, rfl, hgl, hcl⟩ := HC.out (by omega)
      obtain ⟨s2, s3⟩ := sVals_get 0 hq
      have c2 := (hbr.cell (p := ⟨g, j * 4 + 2, none⟩) hgl).trans (hcl _ _ s2)
      have c3 := (hbr.cell (p := ⟨g, j * 4 + 3, none⟩) hgl).trans (hcl _ _ s3)
      have HN := hide (uCodes_snoc hq)
      have hcl2 := uCodes_len (qs.take j)
      rw [List.length_take] at hcl2
      have okq := hok.out q (List.mem_of_getElem? hq)
      have q1 : (j : Int) < (qs.length : Int) := by omega
      clear s2 s3 hcl hq HC
      by_cases hlt2 : q < 2000000
      · rw [if_pos hlt2] at c2
        rw [decide_eq_true hlt2] at c3
        have hpt : uPt q = true := by rcases okq with h | h; exact h; omega
        have hpr := uPt_iff.1 hpt
        have hsu : sU q = uU q := by unfold sU; rw [if_pos hlt2]
        rw [hsu] at HN
        clear hsu okq hpt
        by_cases h6 : q < 65536
        · have hu : uU q = [q] := by unfold uU; rw [if_pos h6]
          rw [hu] at HN
          clear hu
          go_wp2_with (at_builtin; refine wpList_append_own _ rfl _ _ 81 rfl w0.heap.size 3 i0 (.int .i64 0) 1 8 Tryz.underlying81 hi hz0 hz1 hz2 rfl (by decide) u4 _ _ rfl (hrow.out.alloc _) ⟨wr.heap.size, 0, none⟩ 1 1 [.int .i64 q] rfl rfl (cell_one_new _ _ _) (by simp [Value.oneCell']) (by unfold maxLen; omega) (by omega) (by simp; omega) ?_; intro v' w2 hown' hgrow _; have HO := hide hown'; have HB2 := hide (own_grows4 (hbr.alloc (by omega) _) (by simp; omega) (hrow.out.alloc _) hgrow); clear hown' hgrow)
          go_roundg (qs.length - (j + 1))
          case measure => omega
          case rel => exact ⟨j + 1, by omega, by simp, rfl, hide (by rw [HN.out]; simpa using HO.out), HB2.out⟩
        · have hu : uU q = [55296 + (q - 65536) / 1024, 56320 + (q - 65536) % 1024] := by unfold uU; rw [if_neg h6]
          rw [hu] at HN
          clear hu
          go_wp2_with (at_builtin; refine wpList_append_own _ rfl _ _ 81 rfl w0.heap.size 3 i0 (.int .i64 0) 1 8 Tryz.underlying81 hi hz0 hz1 hz2 rfl (by decide) u4 _ _ rfl (hrow.out.alloc _) ⟨wr.heap.size, 0, none⟩ 2 2 [.int .i64 (55296 + (q - 65536) / 1024), .int .i64 (56320 + (q - 65536) % 1024)] rfl rfl (ucell_two_new _ _ _ _) (by simp [Value.oneCell']) (by unfold maxLen; omega) (by omega) (by simp; omega) ?_; intro v' w2 hown' hgrow _; have HO := hide hown'; have HB2 := hide (own_grows4 (hbr.alloc (by omega) _) (by simp; omega) (hrow.out.alloc _) hgrow); clear hown' hgrow)
          go_roundg (qs.length - (j + 1))
          case measure => omega
          case rel => exact ⟨j + 1, by omega, by simp, rfl, hide (by rw [HN.out]; simpa using HO.out), HB2.out⟩
      · rw [if_neg hlt2] at c2
        rw [decide_eq_false hlt2] at c3
        have hsu : sU q = [65536 + (q - 2000000)] := by unfold sU; rw [if_neg hlt2]
        rw [hsu] at HN
        have ob : 2000000 ≤ q ∧ q < 2000256 := by
          rcases okq with h | h
          · have := uPt_lt h; omega
          · exact h
        obtain ⟨c, hc⟩ : ∃ c, q - 2000000 = c := ⟨_, rfl⟩
        rw [hc] at HN c2
        have hcr : 0 ≤ c ∧ c < 256 := by omega
        clear hsu okq hlt2 ob hc
        go_wp2_with (at_builtin; refine wpList_append_own _ rfl _ _ 81 rfl w0.heap.size 3 i0 (.int .i64 0) 1 8 Tryz.underlying81 hi hz0 hz1 hz2 rfl (by decide) u4 _ _ rfl (hrow.out.alloc _) ⟨wr.heap.size, 0, none⟩ 1 1 [.int .i64 (65536 + c)] rfl rfl (cell_one_new _ _ _) (by simp [Value.oneCell']) (by unfold maxLen; omega) (by omega) (by simp; omega) ?_; intro v' w2 hown' hgrow _; have HO := hide hown'; have HB2 := hide (own_grows4 (hbr.alloc (by omega) _) (by simp; omega) (hrow.out.alloc _) hgrow); clear hown' hgrow)
        go_roundg (qs.length - (j + 1))
        case measure => omega
        case rel => exact ⟨j + 1, by omega, by simp, rfl, hide (by rw [HN.out]; simpa using HO.out), HB2.out⟩
    · have q1 : ¬ (j : Int) < (qs.length : Int) := by omega
      have hje : j = qs.length := by omega
      go_wp2
      go_ret
      refine ⟨_, rfl, owns_base ?_ hB0.size, hB0.trans (hbr.mono hB0.size)⟩
      have e : qs.take j = qs := by rw [hje, List.take_length]
      rw [← e]; exact hrow.out

end Go.Proofs.YtddamkdkaijfjaaGreatDoor
