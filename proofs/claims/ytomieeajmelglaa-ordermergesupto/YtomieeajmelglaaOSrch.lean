/- Search -/
import Derived.Test.YtomieeajmelglaaOCmp
namespace Go.Proofs.Ytomieeajmelglaa
open Go.RowKit Go.Shelf
set_option linter.unusedVariables false
set_option linter.unusedSimpArgs false

/-- the first place that is not below, by halves -/
def bsr (f : It → It → Int) (l : List It) (x : It) (lo hi : Nat) : Nat :=
  if h : lo < hi then if f (l[lo + (hi - lo) / 2]?.getD (0, 0)) x < 0 then bsr f l x (lo + (hi - lo) / 2 + 1) hi else bsr f l x lo (lo + (hi - lo) / 2) else lo
termination_by hi - lo
theorem bsr_lt {f : It → It → Int} {l : List It} {x : It} {lo hi m : Nat} (h : lo < hi) (hm : lo + (hi - lo) / 2 = m) (h2 : f (l[m]?.getD (0, 0)) x < 0) : bsr f l x lo hi = bsr f l x (m + 1) hi := by
  rw [bsr, dif_pos h, hm, if_pos h2]
theorem bsr_ge {f : It → It → Int} {l : List It} {x : It} {lo hi m : Nat} (h : lo < hi) (hm : lo + (hi - lo) / 2 = m) (h2 : ¬ f (l[m]?.getD (0, 0)) x < 0) : bsr f l x lo hi = bsr f l x lo m := by
  rw [bsr, dif_pos h, hm, if_neg h2]
theorem bsr_end {f : It → It → Int} {l : List It} {x : It} {lo hi : Nat} (h : ¬ lo < hi) : bsr f l x lo hi = lo := by rw [bsr, dif_neg h]
theorem bsr_le {f : It → It → Int} {l : List It} {x : It} {lo hi : Nat} (h : lo ≤ hi) : lo ≤ bsr f l x lo hi ∧ bsr f l x lo hi ≤ hi := by
  fun_induction bsr f l x lo hi with
  | case1 lo hi h1 h2 ih => have := ih (by omega); omega
  | case2 lo hi h1 h2 ih => have := ih (by omega); omega
  | case3 lo hi h1 => omega
def bsOk (f : It → It → Int) (l : List It) (x : It) (k : Nat) : Bool := decide (k < l.length ∧ f (l[k]?.getD (0, 0)) x = 0)

set_option maxRecDepth 100000 in
set_option maxHeartbeats 8000000 in
theorem search_any {w : World} {va cv : Value} {l : List It} {x : It} {f : It → It → Int} {I : World → Prop} (ha : ItRd (fun _ => True) w va l) (hl : l.length ≤ 8796093022208) (hc : CmpIs I cv f) (hI : ∀ W, Below w.heap.size w W → I W) :
    Calls Try.prog 28 #[va, itV x, cv] w fun e w' => e = .returned (.tuple #[.int .i64 (bsr f l x 0 l.length : Nat), .bool (bsOk f l x (bsr f l x 0 l.length))]) ∧ Below w.heap.size w w' := by
  obtain ⟨cg, cl, rfl, eg, hcall⟩ := hc.val
  obtain ⟨ao, ca, rfl, hac, ham, hacl⟩ := ha
  unfold maxLen at ham
  obtain ⟨x1, x2⟩ := x
  have hfn : ∀ (w : World) f a c, (binOp .eql 28 (.func f a c) .nilFunc).run Try.prog w = .ok (.bool false) w := ofunc_nil itdesc
  obtain ⟨W1, hW1⟩ : ∃ u, w.alloc (.cells #[.int .i64 x1, .int .i64 x2] 27) = u := ⟨_, rfl⟩
  have K1 : Hid (Below w.heap.size w W1) := by rw [← hW1]; exact hide ((Below.refl _ w).alloc (Nat.le_refl _) _)
  have hx0 : W1.heap[w.heap.size]? = some (.cells #[.int .i64 x1, .int .i64 x2] 27 (0, 0)) := by rw [← hW1]; exact heap_alloc_new w _
  have HX : Hid (∀ U, Below W1.heap.size W1 U → U.cell? ⟨w.heap.size, 0, none⟩ = some (.int .i64 x1) ∧ U.cell? ⟨w.heap.size, 1, none⟩ = some (.int .i64 x2)) := hide (fun U k => by
    have h := (k.block _ (Array.getElem?_eq_some_iff.1 hx0).1).trans hx0
    exact ⟨cell_of_row U _ 0 _ _ _ h, cell_of_row U _ 1 _ _ _ h⟩)
  have RA := hide hacl
  have HC := hide (fun (U : World) (k : Below W1.heap.size W1 U) (a b : It) => hcall U a b (hI U (K1.out.trans (k.mono K1.out.size))))
  clear hacl hcall hx0 hI
  obtain ⟨kk, hkk⟩ : ∃ k, bsr f l (x1, x2) 0 l.length = k := ⟨_, rfl⟩
  rw [hkk]
  have HKK := hide hkk
  clear hkk
  go_enter Try.func28, Try.ntmps28
  go_wp2
  go_loopw [8, 9] (fun p q wr => ∃ (lo hi : Nat), p = .int .i64 lo ∧ q = .int .i64 hi ∧ lo ≤ hi ∧ hi ≤ l.length ∧ Hid (bsr f l (x1, x2) lo hi = kk) ∧ Hid (Below W1.heap.size W1 wr)) (fun p q _ => (intOf q).toNat - (intOf p).toNat)
  case atStart => exact ⟨0, l.length, rfl, rfl, by omega, by omega, HKK, hide (Below.refl _ _)⟩
  case round =>
    obtain ⟨lo, hi, rfl, rfl, h1, h2, hk, hB⟩ := hrel
    have HCw := hide (fun (U : World) (k : Below wr.heap.size wr U) => HC.out U (hB.out.trans (k.mono hB.out.size)))
    by_cases hlt : lo < hi
    · obtain ⟨ga, oa, rfl, _, hga, hin⟩ := RA.out (by omega)
      obtain ⟨m, hm⟩ : ∃ m, lo + (hi - lo) / 2 = m := ⟨_, rfl⟩
      have hml : m < l.length := by omega
      have q1 : (lo : Int) < (hi : Int) := by omega
      have e1 : IntKind.i64.wrap ((hi : Int) - (lo : Int)) = ((hi - lo : Nat) : Int) := by rw [IntKind.wrap_i64]; omega
      have e3 : (lo : Int) + ((hi - lo : Nat) : Int) / 2 = (m : Int) := by omega
      have q2 : (m : Int) < (l.length : Int) := by omega
      obtain ⟨⟨y1, y2⟩, hy⟩ : ∃ y, l[m] = y := ⟨_, rfl⟩
      have hmy : l[m]?.getD (0, 0) = (y1, y2) := by simp [hml, hy]
      have qy := hin m hml
      rw [hy] at qy
      have CF : Hid (∀ U, Below wr.heap.size wr U → U.cell? ⟨w.heap.size, 0, none⟩ = some (.int .i64 x1) ∧ U.cell? ⟨w.heap.size, 1, none⟩ = some (.int .i64 x2) ∧ U.cell? ⟨ga, oa + m * 2, none⟩ = some (.int .i64 y1) ∧ U.cell? ⟨ga, oa + m * 2 + 1, none⟩ = some (.int .i64 y2)) := hide (fun U k => by
        have k1 := hB.out.trans (k.mono hB.out.size)
        have k2 : Below w.heap.size w U := K1.out.trans (k1.mono K1.out.size)
        exact ⟨(HX.out U k1).1, (HX.out U k1).2, (k2.cell (p := ⟨ga, _, none⟩) hga).trans qy.1, (k2.cell (p := ⟨ga, _, none⟩) hga).trans qy.2⟩)
      have K : Below wr.heap.size wr wr.drew := (Below.refl _ _).drew
      obtain ⟨fv, hfv⟩ : ∃ z, f (y1, y2) (x1, x2) = z := ⟨_, rfl⟩
      have HFV := hide hfv
      have HMY := hide hmy
      have HM := hide hm
      clear hfv hmy hin qy hy hm
      by_cases hf : fv < 0
      · have d1 : decide (fv < 0) = true := by simpa using hf
        have HN := hide (show bsr f l (x1, x2) (m + 1) hi = kk by rw [← bsr_lt hlt HM.out (by rw [HMY.out, HFV.out]; exact hf)]; exact hk.out)
        have hmh : m < hi := by have := HM.out; omega
        go_wp2
        first | go_region_held3 (fun u => u.cell? ⟨w.heap.size, 0, none⟩ = some (.int .i64 x1) ∧ u.cell? ⟨w.heap.size, 1, none⟩ = some (.int .i64 x2) ∧ u.cell? ⟨ga, oa + m * 2, none⟩ = some (.int .i64 y1) ∧ u.cell? ⟨ga, oa + m * 2 + 1, none⟩ = some (.int .i64 y2))
          (first | with_reducible exact CF.out _ K | go_keep)
          (first | (go_at_fn cg; (with_reducible refine (HCw.out _ K (y1, y2) (x1, x2)).mono ?_); rintro e w8 ⟨rfl, hb⟩; rw [HFV.out]; replace K := K.trans (hb.mono K.size); clear hb)) | fail "region"
        have HB8 := hide (hB.out.trans (K.mono hB.out.size))
        clear K
        go_wp2
        go_roundw
        case rel => exact ⟨m + 1, hi, by simp, rfl, by omega, by omega, HN, HB8⟩
        case measure => simp [intOf]; have := HM.out; omega
      · have d1 : decide (fv < 0) = false := by simpa using hf
        have HN := hide (show bsr f l (x1, x2) lo m = kk by rw [← bsr_ge hlt HM.out (by rw [HMY.out, HFV.out]; exact hf)]; exact hk.out)
        have hmh : m < hi := by have := HM.out; omega
        have hlm : lo ≤ m := by have := HM.out; omega
        go_wp2
        first | go_region_held3 (fun u => u.cell? ⟨w.heap.size, 0, none⟩ = some (.int .i64 x1) ∧ u.cell? ⟨w.heap.size, 1, none⟩ = some (.int .i64 x2) ∧ u.cell? ⟨ga, oa + m * 2, none⟩ = some (.int .i64 y1) ∧ u.cell? ⟨ga, oa + m * 2 + 1, none⟩ = some (.int .i64 y2))
          (first | with_reducible exact CF.out _ K | go_keep)
          (first | (go_at_fn cg; (with_reducible refine (HCw.out _ K (y1, y2) (x1, x2)).mono ?_); rintro e w8 ⟨rfl, hb⟩; rw [HFV.out]; replace K := K.trans (hb.mono K.size); clear hb)) | fail "region"
        have HB8 := hide (hB.out.trans (K.mono hB.out.size))
        clear K
        go_wp2
        go_roundw
        case rel => exact ⟨lo, m, rfl, rfl, by omega, by omega, HN, HB8⟩
        case measure => simp [intOf]; have := HM.out; omega
    · have q1 : ¬ (lo : Int) < (hi : Int) := by omega
      have hkl : lo = kk := by rw [← hk.out, bsr_end hlt]
      subst hkl
      by_cases hlo : lo < l.length
      · obtain ⟨ga, oa, rfl, _, hga, hin⟩ := RA.out (by omega)
        have q2 : (lo : Int) < (l.length : Int) := by omega
        have d2 : decide ((lo : Int) < (l.length : Int)) = true := by simpa using q2
        obtain ⟨⟨y1, y2⟩, hy⟩ : ∃ y, l[lo] = y := ⟨_, rfl⟩
        have hmy : l[lo]?.getD (0, 0) = (y1, y2) := by simp [hlo, hy]
        have qy := hin lo hlo
        rw [hy] at qy
        have CF : Hid (∀ U, Below wr.heap.size wr U → U.cell? ⟨w.heap.size, 0, none⟩ = some (.int .i64 x1) ∧ U.cell? ⟨w.heap.size, 1, none⟩ = some (.int .i64 x2) ∧ U.cell? ⟨ga, oa + lo * 2, none⟩ = some (.int .i64 y1) ∧ U.cell? ⟨ga, oa + lo * 2 + 1, none⟩ = some (.int .i64 y2)) := hide (fun U k => by
          have k1 := hB.out.trans (k.mono hB.out.size)
          have k2 : Below w.heap.size w U := K1.out.trans (k1.mono K1.out.size)
          exact ⟨(HX.out U k1).1, (HX.out U k1).2, (k2.cell (p := ⟨ga, _, none⟩) hga).trans qy.1, (k2.cell (p := ⟨ga, _, none⟩) hga).trans qy.2⟩)
        have K : Below wr.heap.size wr wr.drew := (Below.refl _ _).drew
        obtain ⟨fv, hfv⟩ : ∃ z, f (y1, y2) (x1, x2) = z := ⟨_, rfl⟩
        have HOK : Hid (bsOk f l (x1, x2) lo = (fv == 0)) := hide (by rw [bsOk, hmy, hfv]; simp [hlo]; rfl)
        have HFV := hide hfv
        clear hfv hmy hin qy hy
        obtain ⟨ok, hok⟩ : ∃ b, (fv == 0) = b := ⟨_, rfl⟩
        rw [hok] at HOK
        go_wp2
        first | go_region_held3 (fun u => u.cell? ⟨w.heap.size, 0, none⟩ = some (.int .i64 x1) ∧ u.cell? ⟨w.heap.size, 1, none⟩ = some (.int .i64 x2) ∧ u.cell? ⟨ga, oa + lo * 2, none⟩ = some (.int .i64 y1) ∧ u.cell? ⟨ga, oa + lo * 2 + 1, none⟩ = some (.int .i64 y2))
          (first | with_reducible exact CF.out _ K | go_keep)
          (first | (go_at_fn cg; (with_reducible refine (HCw.out _ K (y1, y2) (x1, x2)).mono ?_); rintro e w8 ⟨rfl, hb⟩; rw [HFV.out]; replace K := K.trans (hb.mono K.size); clear hb)) | fail "region"
        have HB8 := hide (K1.out.trans ((hB.out.trans (K.mono hB.out.size)).mono K1.out.size))
        clear K
        go_wp2
        exact bodyPost_ret (v := .tuple #[.int .i64 lo, .bool ok]) (by simp [results, Try.results28, go_sem]) rfl ⟨by rw [HOK.out], HB8.out⟩
      · have q2 : ¬ (lo : Int) < (l.length : Int) := by omega
        have d2 : decide ((lo : Int) < (l.length : Int)) = false := by simpa using q2
        have HOK : Hid (bsOk f l (x1, x2) lo = false) := hide (by simp [bsOk, hlo])
        go_wp2
        go_quiet (fail)
        go_wp2
        exact bodyPost_ret (v := .tuple #[.int .i64 lo, .bool false]) (by simp [results, Try.results28, go_sem]) rfl ⟨by rw [HOK.out], K1.out.trans ((hB.out.trans ((obel_drewN wr _).mono hB.out.size)).mono K1.out.size)⟩

end Go.Proofs.Ytomieeajmelglaa
