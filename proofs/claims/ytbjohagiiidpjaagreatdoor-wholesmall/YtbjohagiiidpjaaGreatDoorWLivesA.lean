/- whole: Show and Read at fixed numbers, and the law's examples -/
import Derived.Test.YtbjohagiiidpjaaGreatDoorWholeQ
import Derived.Test.YtbjohagiiidpjaaGreatDoorTwos
import Derived.Test.YtbjohagiiidpjaaGreatDoorDigD
namespace Go.Proofs.YtbjohagiiidpjaaGreatDoor
open Go.RowKit

set_option maxRecDepth 20000 in
set_option maxHeartbeats 2000000 in
theorem show_d3 {w : World} {v : Value} {k : Nat} (h : WArg w v (-3) k) (hk : k ≤ 1099511627776) :
    Calls Tryz.prog 57 #[v] w fun e w' => e = .returned (.string ⟨#[45, 51]⟩) ∧ Below w.heap.size w w' := by
  obtain ⟨neg, m, a, rfl, ha, hn⟩ := h
  have A1 := ha
  have N1 := ha.nonneg
  obtain ⟨zs, ⟨ao, cap, rfl, -⟩, -⟩ := ha
  have hna : neg = true ∧ a = 3 := by unfold wn at hn; cases neg <;> simp at hn <;> constructor <;> first | rfl | omega
  obtain ⟨rfl, rfl⟩ := hna
  have K1 : Below w.heap.size w (w.alloc (.cells #[.bool true, .slice ao zs.length cap] 25)) := bel_alloc _ _
  have C1 := cell2_new w (.bool true) (.slice ao zs.length cap) 25
  have HC := hide C1
  have HN := hide hn
  clear C1 hn
  replace A1 := A1.below K1
  have hsg : sgn (-3) 0 = -1 := by decide
  have hap : (⟨#[45]⟩ : ByteArray) ++ ⟨#[51]⟩ = ⟨#[45, 51]⟩ := rfl
  go_enter Tryz.func57, Tryz.ntmps57
  go_wp2_with fail
  with_reducible refine (sign_any A1 HN.out hk).mono ?_
  rintro e w2 ⟨rfl, hb2⟩
  have p1 := (HC.out.below hb2).c1
  go_wp2_with fail
  with_reducible refine (digits_d3 (A1.below hb2) hk).mono ?_
  rintro e w3 ⟨rfl, hb3⟩
  go_wp2
  go_ret
  exact ⟨rfl, K1.trans ((below_trans hb2 hb3).mono K1.size)⟩

set_option maxRecDepth 20000 in
set_option maxHeartbeats 2000000 in
theorem show_d1 {w : World} {v : Value} {k : Nat} (h : WArg w v (-1) k) (hk : k ≤ 1099511627776) :
    Calls Tryz.prog 57 #[v] w fun e w' => e = .returned (.string ⟨#[45, 49]⟩) ∧ Below w.heap.size w w' := by
  obtain ⟨neg, m, a, rfl, ha, hn⟩ := h
  have A1 := ha
  have N1 := ha.nonneg
  obtain ⟨zs, ⟨ao, cap, rfl, -⟩, -⟩ := ha
  have hna : neg = true ∧ a = 1 := by unfold wn at hn; cases neg <;> simp at hn <;> constructor <;> first | rfl | omega
  obtain ⟨rfl, rfl⟩ := hna
  have K1 : Below w.heap.size w (w.alloc (.cells #[.bool true, .slice ao zs.length cap] 25)) := bel_alloc _ _
  have C1 := cell2_new w (.bool true) (.slice ao zs.length cap) 25
  have HC := hide C1
  have HN := hide hn
  clear C1 hn
  replace A1 := A1.below K1
  have hsg : sgn (-1) 0 = -1 := by decide
  have hap : (⟨#[45]⟩ : ByteArray) ++ ⟨#[49]⟩ = ⟨#[45, 49]⟩ := rfl
  go_enter Tryz.func57, Tryz.ntmps57
  go_wp2_with fail
  with_reducible refine (sign_any A1 HN.out hk).mono ?_
  rintro e w2 ⟨rfl, hb2⟩
  have p1 := (HC.out.below hb2).c1
  go_wp2_with fail
  with_reducible refine (digits_d1 (A1.below hb2) hk).mono ?_
  rintro e w3 ⟨rfl, hb3⟩
  go_wp2
  go_ret
  exact ⟨rfl, K1.trans ((below_trans hb2 hb3).mono K1.size)⟩

set_option maxRecDepth 20000 in
set_option maxHeartbeats 2000000 in
theorem cutPrefix_5 {w : World} :
    Calls Tryz.prog 127 #[.string ⟨#[45, 53]⟩, .string ⟨#[45]⟩] w fun e w' => e = .returned (.tuple #[.string ⟨#[53]⟩, .bool true]) ∧ w' = w := by
  have x1 : ({ data := #[45, 53] } : ByteArray).extract 0 1 = { data := #[45] } := rfl
  have x2 : ({ data := #[45, 53] } : ByteArray).extract 1 2 = { data := #[53] } := rfl
  have x3 : (({ data := #[45] } : ByteArray) == { data := #[45] }) = true := by decide
  go_enter Tryz.func127, Tryz.ntmps127
  go_wp2
  go_ret2
  exact ⟨rfl, rfl⟩

set_option maxRecDepth 20000 in
set_option maxHeartbeats 4000000 in
theorem wread_5 {w : World} :
    Calls Tryz.prog 56 #[.string ⟨#[45, 53]⟩] w fun e w' => ∃ v, e = .returned (.tuple #[v, .bool true]) ∧ WNum w.heap.size w' v (-5) 2 ∧ Below w.heap.size w w' := by
  have K1 := bel_alloc w (.cells #[.bool false, .slice none 0 0] 25)
  have D1 := cell2_new w (.bool false) (.slice none 0 0) 25
  have HD := hide D1
  clear D1
  have lt1 := HD.out.lt
  go_enter Tryz.func56, Tryz.ntmps56
  go_wp2_with fail
  with_reducible refine cutPrefix_5.mono ?_
  rintro e w2 ⟨rfl, rfl⟩
  go_wp2_with fail
  with_reducible refine read_5.mono ?_
  rintro e w2 ⟨vn, rfl, hN, hb2⟩
  have hN' := hN
  obtain ⟨zs, ⟨ao, rfl, _, _⟩, hc, hv, _⟩ := hN
  have hz : ¬ (zs.length : Int) = 0 := by
    intro e
    have : zs = [] := List.eq_nil_of_length_eq_zero (by omega)
    rw [this] at hv
    exact absurd hv (by decide)
  have hz2 : ((zs.length : Int) == 0) = false := by simpa using hz
  clear hz hc hv
  go_wp2_with fail
  with_reducible refine (number_any hN' (by omega)).mono ?_
  rintro e w3 ⟨vr, rfl, hR, hb3⟩
  rw [if_pos rfl] at hR
  have K := below_trans hb2 hb3
  clear hb2 hb3 hN'
  obtain ⟨ng, ro, rl, rfl⟩ := hR.told
  have d0 := (HD.out.below K).c0
  have d1 := (HD.out.below K).c1
  have g0 := (HD.out.below K).f0
  have g1 := (HD.out.below K).f1
  go_wp2
  have PD := (HD.out.below K).put (.bool ng) (.slice ro rl rl)
  have KB := below_put2 (b := w.heap.size) (K1.trans (K.mono (by have := K1.size; omega))) (by omega) (.bool ng) (.slice ro rl rl)
  have WN := ((hR.put lt1 0 (.bool ng)).put lt1 1 (.slice ro rl rl)).low (B' := w.heap.size) (by omega)
  clear d0 d1 g0 g1 hR K K1 HD
  generalize (w3.setCell ⟨w.heap.size, 0, none⟩ (.bool ng)).setCell ⟨w.heap.size, 1, none⟩ (.slice ro rl rl) = w9 at *
  (try simp only [Exit.inBlock, Exit.then])
  exact bodyPost_ret (v := .tuple #[.agg #[.bool ng, .slice ro rl rl], .bool true]) (by simp [results, Tryz.results56, go_sem, PD.c0, PD.c1]) rfl ⟨_, rfl, WN, KB⟩

end Go.Proofs.YtbjohagiiidpjaaGreatDoor
