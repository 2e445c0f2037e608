/- ERd, ERf -/
import Derived.Test.YtinfkoiifemjmaaGreatDoorS18
import Derived.Test.YtinfkoiifemjmaaGreatDoorS10
import Derived.Test.YtinfkoiifemjmaaGreatDoorS13
namespace Go.Proofs.YtinfkoiifemjmaaGreatDoor
open Go.RowKit
set_option linter.unusedVariables false

def voDs (es : List Int) : List Int := voW (voB es) ++ voF (voB es)
def voPt (es : List Int) : Int := (voW (voB es)).length + voP (es.length + 400) es
theorem valueOf_any {w : World} {s : ByteArray} {es : List Int} (hs : s = strOfNums es) (hl : es.length ≤ 4294967000) (hok : (scG es 0 0).2 = true) :
    Calls Tryz.prog 37 #[.string s] w fun e w' => e = .returned (.agg #[.bool (headB es 45), .string (strOfNums (voDs es)), .int .i64 (voPt es)]) ∧ Below w.heap.size w w' := by
  obtain ⟨h1, h2, h3⟩ := scan_value hok
  have hz : (s.size : Int) = (es.length : Int) := by rw [hs, strOfNums_size]
  unfold voDs voPt
  rw [← hz]
  by_cases hm : ixE (cutB es 45) = -1
  · exact valueOf_none h1 hs hl hm
  · exact valueOf_some h1 hs hl hm (h2 hm)
theorem voPt_range {es : List Int} (hl : es.length ≤ 4294967000) (hok : (scG es 0 0).2 = true) : -9223372036854775808 ≤ voPt es ∧ voPt es ≤ 9223372036854775807 ∧ (voDs es).length ≤ 2 * es.length := by
  obtain ⟨h1, h2, h3⟩ := scan_value hok
  have a := voWF_len (voB es)
  have b : (voB es).length ≤ es.length := by
    have := cutB_len es 45
    unfold voB; split
    · omega
    · rw [List.length_take]; omega
  have c : -(es.length + 400 : Int) ≤ voP (es.length + 400) es ∧ voP (es.length + 400) es ≤ (es.length + 400 : Int) := by
    unfold voP
    by_cases hm : ixE (cutB es 45) = -1
    · rw [if_pos hm]; omega
    · rw [if_neg hm]
      have q := pwF_le (lim := es.length + 400) (by omega) _ 0 (h2 hm) (by omega) (by omega)
      split <;> omega
  unfold voPt voDs
  rw [List.length_append]
  omega
end Go.Proofs.YtinfkoiifemjmaaGreatDoor

namespace Go.Proofs.YtinfkoiifemjmaaGreatDoor
open Go.RowKit
set_option linter.unusedVariables false

set_option maxHeartbeats 4000000 in
set_option maxRecDepth 100000 in
theorem read_badF {w : World} {s : ByteArray} {es : List Int} {a : Nat → Addr} (hb : Byt es) (hs : s = strOfNums es) (hl : es.length ≤ 9223372036854775807) (hno : (scG es 0 0).2 = false) (hS : Snt w a) :
    Calls Tryz.prog 19 #[.string s] w fun e w' => (∃ v, e = .returned (.tuple #[.int .u64 0, v]) ∧ FltIs w' a v (scG es 0 0).1) ∧ Below w.heap.size w w' := by
  have hE := hS.cell 2 (by omega)
  simp only [sG, List.getD_cons_succ, List.getD_cons_zero] at hE
  clear hS
  have H := hide (fun W : World => scan_any (w := W) hb hs hl)
  rw [hno] at H
  obtain ⟨n, ha⟩ : ∃ n, (scG es 0 0).1 = n := ⟨_, rfl⟩
  rw [ha] at H ⊢
  have HK := hide (show ∀ o, Below w.heap.size w (w.drew.alloc o) from fun o => (Below.refl _ _).drew.alloc (Nat.le_refl _) o)
  have HC := hide (show ∀ T, (w.drew.alloc (.cells #[.iface 235 (.pointer (some (a 2))), .int .i64 n, .string ⟨#[]⟩] T)).heap[w.heap.size]? = some (.cells #[.iface 235 (.pointer (some (a 2))), .int .i64 n, .string ⟨#[]⟩] T (0, 0)) from fun T => heap_alloc_new w.drew _)
  clear hb hs hl hno ha
  go_enter Tryz.func19, Tryz.ntmps19
  go_wp2_with fail
  refine (H.out _).mono ?_
  rintro e w1 ⟨rfl, rfl⟩
  clear H
  go_upto_region 3 with fail
  go_region
  all_goals go_wp2
  all_goals go_ret2
  all_goals exact ⟨⟨_, rfl, _, rfl, HC.out _⟩, HK.out _⟩

set_option maxHeartbeats 8000000 in
set_option maxRecDepth 100000 in
theorem read_goodF {w : World} {s : ByteArray} {es : List Int} {a : Nat → Addr} (T : Lays w) (hb : Byt es) (hs : s = strOfNums es) (hl : es.length ≤ 4294967000) (hok : (scG es 0 0).2 = true) (hS : Snt w a) :
    Calls Tryz.prog 19 #[.string s] w fun e w' => Below w.heap.size w w' ∧ ∃ r, DV 4503599627370496 (-1074) 9218868437227405312 (dg (voDs es)) (voPt es - (voDs es).length) r ∧
      ((r < 9218868437227405312 ∧ e = .returned (.tuple #[.int .u64 (r + b2i (headB es 45) * 9223372036854775808), .nilIface])) ∨ (r = 9218868437227405312 ∧ ∃ v, e = .returned (.tuple #[.int .u64 0, v]) ∧ FltIs w' a v 0)) := by
  have hE := hS.cell 2 (by omega)
  have hG := hS.lt (i := 2) (by omega)
  simp only [sG, List.getD_cons_succ, List.getD_cons_zero] at hE hG
  clear hS
  have H := hide (fun W : World => scan_any (w := W) hb hs (by omega))
  rw [hok] at H
  have HV := hide (fun W : World => valueOf_any (w := W) hs hl hok)
  have hdg := (scan_value hok).2.2
  have hpt := voPt_range hl hok
  have HR := hide (fun (W : World) (TW : Lays W) => dread_d (w := W) (es := voDs es) (s := strOfNums (voDs es)) (N := (voDs es).length) (ng := headB es 45) (P := voPt es) TW (show Dgt (voDs es) from hdg).byt rfl rfl (by omega) hpt.1 hpt.2.1)
  have HDG := hide (show Dgt (voDs es) from hdg)
  obtain ⟨n, ha⟩ : ∃ n, (scG es 0 0).1 = n := ⟨_, rfl⟩
  rw [ha] at H
  generalize voDs es = ds at *
  generalize voPt es = P at *
  generalize headB es 45 = ng at *
  obtain ⟨t, ht⟩ : ∃ t, strOfNums ds = t := ⟨_, rfl⟩
  rw [ht] at HV HR
  clear hb hs hl hok ha hdg hpt ht
  go_enter Tryz.func19, Tryz.ntmps19
  go_wp2_with fail
  refine (H.out _).mono ?_
  rintro e w1 ⟨rfl, rfl⟩
  clear H
  go_wp2_with fail
  refine (HV.out _).mono ?_
  rintro e w2 ⟨rfl, b1⟩
  clear HV
  go_wp2_with fail
  refine (HR.out _ (T.below b1)).mono ?_
  clear HR
  rintro x w3 ⟨b2, ⟨h, rfl⟩ | ⟨h, r, rfl, hv⟩⟩
  · exact absurd HDG.out h
  have r0 : 0 ≤ r := hv.1
  have r1 : r ≤ 9218868437227405312 := hv.2.1
  have HDV := hide hv
  have b12 := below_trans b1 b2
  have bc := b2i_cases ng
  have q1 : 0 ≤ r + b2i ng * 9223372036854775808 ∧ r + b2i ng * 9223372036854775808 < 18446744073709551616 ∧ (r + b2i ng * 9223372036854775808) % 9223372036854775808 = r := by rcases bc with h | h <;> rw [h] <;> omega
  obtain ⟨X, hX⟩ : ∃ X, r + b2i ng * 9223372036854775808 = X := ⟨_, rfl⟩
  rw [hX] at q1 ⊢
  have HC := hide (class_64 (w := w3) (T.below b12) X r q1.1 q1.2.1 q1.2.2)
  have HX := hide hX
  clear hv h b1 b2 bc q1 hX
  by_cases hi : r = 9218868437227405312
  · have hc : cls 9223372036854775808 4503599627370496 r = 4 := by rw [hi]; decide
    rw [hc] at HC
    clear hc
    go_wp2_with fail
    refine HC.out.mono ?_
    clear HC
    rintro e w4 ⟨rfl, b3⟩
    have K := below_trans b12 b3
    have hE4 : w4.cell? ⟨0, 0, none⟩ = some (.iface 235 (.pointer (some (a 2)))) := (K.cell (p := ⟨0, 0, none⟩) hG).trans hE
    have HK := hide (show ∀ o, Below w1.heap.size w1 (w4.drew.alloc o) from fun o => K.drew.alloc K.size o)
    have HC := hide (show ∀ T, (w4.drew.alloc (.cells #[.iface 235 (.pointer (some (a 2))), .int .i64 0, .string ⟨#[]⟩] T)).heap[w4.heap.size]? = some (.cells #[.iface 235 (.pointer (some (a 2))), .int .i64 0, .string ⟨#[]⟩] T (0, 0)) from fun T => heap_alloc_new w4.drew _)
    clear b12 b3 hE K
    go_upto_region 6 with fail
    go_region
    all_goals go_wp2
    all_goals go_ret2
    all_goals exact ⟨HK.out _, r, HDV.out, Or.inr ⟨hi, _, rfl, _, rfl, HC.out _⟩⟩
  · have hc : (cls 9223372036854775808 4503599627370496 r == 4) = false := by
      refine beq_eq_false_iff_ne.2 (fun h => hi ?_)
      unfold cls at h
      repeat' split at h
      all_goals omega
    obtain ⟨k, hk⟩ : ∃ k, cls 9223372036854775808 4503599627370496 r = k := ⟨_, rfl⟩
    rw [hk] at hc HC
    clear hk
    go_wp2_with fail
    refine HC.out.mono ?_
    rintro e w4 ⟨rfl, b3⟩
    have K := below_trans b12 b3
    clear b12 b3 HC hE
    go_wp2
    go_ret2
    exact ⟨K, r, HDV.out, Or.inl ⟨by omega, by rw [HX.out]; rfl⟩⟩

end Go.Proofs.YtinfkoiifemjmaaGreatDoor
