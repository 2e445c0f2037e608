/- decimal.numberOf -/
import Derived.Test.YtigehipclkoecaaGreatDoorDStr
import Derived.Test.YtigehipclkoecaaGreatDoorIeee
import Derived.Laws.RangeString
import Derived.Laws.RangeAny
import Derived.Deep.LoopGhost
import Derived.Handy
import Derived.Laws.ResultCell
import Derived.Deep.RegionHeld3
import Derived.Deep.Cut
namespace Go.Proofs.YtigehipclkoecaaGreatDoor
open Go.RowKit
set_option linter.unusedVariables false

/-- the first and the last digit that is not 0, among the first i -/
def Ends (es : List Int) (N i : Nat) (f e : Int) : Prop :=
  (f = N ∧ e = 0 ∧ ∀ j, j < i → Nt.lb es j = 48) ∨
  (∃ a b : Nat, f = a ∧ e = b ∧ a < b ∧ b ≤ i ∧ Nt.lb es a ≠ 48 ∧ Nt.lb es (b - 1) ≠ 48 ∧ (∀ j, j < a → Nt.lb es j = 48) ∧ ∀ j, b ≤ j → j < i → Nt.lb es j = 48)
theorem ends_nought {es : List Int} {N i : Nat} {f e : Int} (h : Ends es N i f e) (h0 : Nt.lb es i = 48) : Ends es N (i + 1) f e := by
  rcases h with ⟨h1, h2, h3⟩ | ⟨a, b, h1, h2, h3, h4, h5, h6, h7, h8⟩
  · exact .inl ⟨h1, h2, fun j hj => by
      rcases Nat.lt_or_ge j i with g | g
      · exact h3 j g
      · rw [show j = i by omega]; exact h0⟩
  · exact .inr ⟨a, b, h1, h2, h3, by omega, h5, h6, h7, fun j hj hk => by
      rcases Nat.lt_or_ge j i with g | g
      · exact h8 j hj g
      · rw [show j = i by omega]; exact h0⟩
theorem ends_digit {es : List Int} {N i : Nat} {f e : Int} (hi : i < N) (h : Ends es N i f e) (h0 : Nt.lb es i ≠ 48) : Ends es N (i + 1) (min f i) (i + 1) := by
  rcases h with ⟨h1, h2, h3⟩ | ⟨a, b, h1, h2, h3, h4, h5, h6, h7, h8⟩
  · exact .inr ⟨i, i + 1, by omega, by omega, by omega, by omega, h0, by simpa using h0, h3, fun j hj hk => by omega⟩
  · exact .inr ⟨a, i + 1, by omega, by omega, by omega, by omega, h5, by simpa using h0, h7, fun j hj hk => by omega⟩

theorem not_dg {es : List Int} {i : Nat} (hi : i < es.length) (h : ¬ (48 ≤ Nt.lb es i ∧ Nt.lb es i ≤ 57)) : ¬ Dg es := fun hd => h (hd _ (lb_in hi))
theorem all_dg {es : List Int} (h : ∀ j, j < es.length → 48 ≤ Nt.lb es j ∧ Nt.lb es j ≤ 57) : Dg es := fun x hx => by
  obtain ⟨j, hj, rfl⟩ := List.getElem_of_mem hx
  rw [← lb_get hj]; exact h j hj

set_option maxRecDepth 100000 in
set_option maxHeartbeats 8000000 in
theorem numberOf_any {w : World} {es : List Int} {s : ByteArray} {N : Nat} {ng : Bool} {P : Int} (hd : Byt es) (hs : s = strOfNums es) (hN : es.length = N) (hl : N ≤ 9223372036854775807) :
    Calls Tryz.prog 42 #[.agg #[.bool ng, .string s, .int .i64 P]] w fun e w' => Below w.heap.size w w' ∧
      ((¬ Dg es ∧ e = .returned (.tuple #[.agg #[.bool false, .string ⟨#[]⟩, .int .i64 0, .int .i64 0], .bool false])) ∨
       (Dg es ∧ (∀ j, j < N → Nt.lb es j = 48) ∧ e = .returned (.tuple #[.agg #[.bool ng, .string ⟨#[]⟩, .int .i64 0, .int .i64 0], .bool true])) ∨
       (Dg es ∧ ∃ a b : Nat, a < b ∧ b ≤ N ∧ Nt.lb es a ≠ 48 ∧ Nt.lb es (b - 1) ≠ 48 ∧ (∀ j, j < a → Nt.lb es j = 48) ∧ (∀ j, b ≤ j → j < N → Nt.lb es j = 48) ∧
         e = .returned (.tuple #[.agg #[.bool ng, .string (strOfNums ((es.take b).drop a)), .int .i64 P, .int .i64 a], .bool true]))) := by
  have hsz : s.size = N := by rw [hs, strOfNums_size, hN]
  have Hd := hide hd
  have HN := hide hN
  have HS := hide hs
  have hix : ∀ p (h : p < s.size), ((s[p]'h).toNat : Int) = Nt.lb es p := by
    intro p h
    subst hs
    exact txt_at h hd
  have Hix := hide hix
  clear hd hN hs hix
  go_enter Tryz.func42, Tryz.ntmps42
  go_wp2
  have K0 : Below w.heap.size w ((w.alloc (.cells #[.bool ng, .string s, .int .i64 P] 23)).alloc (.cells #[.bool false, .string ⟨#[]⟩, .int .i64 0, .int .i64 0] 79)) :=
    ((Below.refl _ _).alloc (Nat.le_refl _) _).alloc (by simp) _
  have z2 : ((w.alloc (.cells #[.bool ng, .string s, .int .i64 P] 23)).alloc (.cells #[.bool false, .string ⟨#[]⟩, .int .i64 0, .int .i64 0] 79)).heap.size = w.heap.size + 1 + 1 := by simp
  have Kb : ∀ k, Below (w.alloc (.cells #[.bool ng, .string s, .int .i64 P] 23)).heap.size (w.alloc (.cells #[.bool ng, .string s, .int .i64 P] 23)) (((w.alloc (.cells #[.bool ng, .string s, .int .i64 P] 23)).alloc (.cells #[.bool false, .string ⟨#[]⟩, .int .i64 0, .int .i64 0] 79)).iter s k) := fun k => by
    show Below _ _ (((w.alloc (.cells #[.bool ng, .string s, .int .i64 P] 23)).alloc (.cells #[.bool false, .string ⟨#[]⟩, .int .i64 0, .int .i64 0] 79)).alloc (.stringIter s k))
    exact ((Below.refl _ _).alloc (Nat.le_refl _) _).alloc (by simp) _
  have C := cell3_new w (.bool ng) (.string s) (.int .i64 P) 23
  have g0 : ∀ k, (((w.alloc (.cells #[.bool ng, .string s, .int .i64 P] 23)).alloc (.cells #[.bool false, .string ⟨#[]⟩, .int .i64 0, .int .i64 0] 79)).iter s k).cell? ⟨w.heap.size, 0, none⟩ = some (.bool ng) := fun k => ((Kb k).cell (p := ⟨w.heap.size, 0, none⟩) (by simp)).trans C.c0
  have g1 : ∀ k, (((w.alloc (.cells #[.bool ng, .string s, .int .i64 P] 23)).alloc (.cells #[.bool false, .string ⟨#[]⟩, .int .i64 0, .int .i64 0] 79)).iter s k).cell? ⟨w.heap.size, 1, none⟩ = some (.string s) := fun k => ((Kb k).cell (p := ⟨w.heap.size, 1, none⟩) (by simp)).trans C.c1
  have g2 : ∀ k, (((w.alloc (.cells #[.bool ng, .string s, .int .i64 P] 23)).alloc (.cells #[.bool false, .string ⟨#[]⟩, .int .i64 0, .int .i64 0] 79)).iter s k).cell? ⟨w.heap.size, 2, none⟩ = some (.int .i64 P) := fun k => ((Kb k).cell (p := ⟨w.heap.size, 2, none⟩) (by simp)).trans C.c2
  have Kc : ∀ k, Below ((w.alloc (.cells #[.bool ng, .string s, .int .i64 P] 23)).alloc (.cells #[.bool false, .string ⟨#[]⟩, .int .i64 0, .int .i64 0] 79)).heap.size ((w.alloc (.cells #[.bool ng, .string s, .int .i64 P] 23)).alloc (.cells #[.bool false, .string ⟨#[]⟩, .int .i64 0, .int .i64 0] 79)) (((w.alloc (.cells #[.bool ng, .string s, .int .i64 P] 23)).alloc (.cells #[.bool false, .string ⟨#[]⟩, .int .i64 0, .int .i64 0] 79)).iter s k) := fun k => by
    show Below _ _ (((w.alloc (.cells #[.bool ng, .string s, .int .i64 P] 23)).alloc (.cells #[.bool false, .string ⟨#[]⟩, .int .i64 0, .int .i64 0] 79)).alloc (.stringIter s k))
    exact (Below.refl _ _).alloc (Nat.le_refl _) _
  have n1 : (w.alloc (.cells #[.bool ng, .string s, .int .i64 P] 23)).heap.size = w.heap.size + 1 := by simp
  have r0 : ∀ k, (((w.alloc (.cells #[.bool ng, .string s, .int .i64 P] 23)).alloc (.cells #[.bool false, .string ⟨#[]⟩, .int .i64 0, .int .i64 0] 79)).iter s k).cell? ⟨w.heap.size + 1, 0, none⟩ = some (.bool false) := fun k => ((Kc k).cell (p := ⟨w.heap.size + 1, 0, none⟩) (by simp)).trans (by rw [World.cell?_alloc_at _ _ _ _ (by rw [n1])]; rfl)
  have f0 : ∀ k, (((w.alloc (.cells #[.bool ng, .string s, .int .i64 P] 23)).alloc (.cells #[.bool false, .string ⟨#[]⟩, .int .i64 0, .int .i64 0] 79)).iter s k).frozen? ⟨w.heap.size + 1, 0, none⟩ = false := fun k => ((Kc k).frozen (p := ⟨w.heap.size + 1, 0, none⟩) (by simp)).trans (by rw [World.frozen?_alloc_at _ _ _ _ (by rw [n1])])
  have r1 : ∀ k, (((w.alloc (.cells #[.bool ng, .string s, .int .i64 P] 23)).alloc (.cells #[.bool false, .string ⟨#[]⟩, .int .i64 0, .int .i64 0] 79)).iter s k).cell? ⟨w.heap.size + 1, 1, none⟩ = some (.string ⟨#[]⟩) := fun k => ((Kc k).cell (p := ⟨w.heap.size + 1, 1, none⟩) (by simp)).trans (by rw [World.cell?_alloc_at _ _ _ _ (by rw [n1])]; rfl)
  have f1 : ∀ k, (((w.alloc (.cells #[.bool ng, .string s, .int .i64 P] 23)).alloc (.cells #[.bool false, .string ⟨#[]⟩, .int .i64 0, .int .i64 0] 79)).iter s k).frozen? ⟨w.heap.size + 1, 1, none⟩ = false := fun k => ((Kc k).frozen (p := ⟨w.heap.size + 1, 1, none⟩) (by simp)).trans (by rw [World.frozen?_alloc_at _ _ _ _ (by rw [n1])])
  have r2 : ∀ k, (((w.alloc (.cells #[.bool ng, .string s, .int .i64 P] 23)).alloc (.cells #[.bool false, .string ⟨#[]⟩, .int .i64 0, .int .i64 0] 79)).iter s k).cell? ⟨w.heap.size + 1, 2, none⟩ = some (.int .i64 0) := fun k => ((Kc k).cell (p := ⟨w.heap.size + 1, 2, none⟩) (by simp)).trans (by rw [World.cell?_alloc_at _ _ _ _ (by rw [n1])]; rfl)
  have f2 : ∀ k, (((w.alloc (.cells #[.bool ng, .string s, .int .i64 P] 23)).alloc (.cells #[.bool false, .string ⟨#[]⟩, .int .i64 0, .int .i64 0] 79)).iter s k).frozen? ⟨w.heap.size + 1, 2, none⟩ = false := fun k => ((Kc k).frozen (p := ⟨w.heap.size + 1, 2, none⟩) (by simp)).trans (by rw [World.frozen?_alloc_at _ _ _ _ (by rw [n1])])
  have r3 : ∀ k, (((w.alloc (.cells #[.bool ng, .string s, .int .i64 P] 23)).alloc (.cells #[.bool false, .string ⟨#[]⟩, .int .i64 0, .int .i64 0] 79)).iter s k).cell? ⟨w.heap.size + 1, 3, none⟩ = some (.int .i64 0) := fun k => ((Kc k).cell (p := ⟨w.heap.size + 1, 3, none⟩) (by simp)).trans (by rw [World.cell?_alloc_at _ _ _ _ (by rw [n1])]; rfl)
  have f3 : ∀ k, (((w.alloc (.cells #[.bool ng, .string s, .int .i64 P] 23)).alloc (.cells #[.bool false, .string ⟨#[]⟩, .int .i64 0, .int .i64 0] 79)).iter s k).frozen? ⟨w.heap.size + 1, 3, none⟩ = false := fun k => ((Kc k).frozen (p := ⟨w.heap.size + 1, 3, none⟩) (by simp)).trans (by rw [World.frozen?_alloc_at _ _ _ _ (by rw [n1])])
  have Kit : ∀ k u0 u1 u2 u3, Below w.heap.size w (((((((w.alloc (.cells #[.bool ng, .string s, .int .i64 P] 23)).alloc (.cells #[.bool false, .string ⟨#[]⟩, .int .i64 0, .int .i64 0] 79)).iter s k).setCell ⟨w.heap.size + 1, 0, none⟩ u0).setCell ⟨w.heap.size + 1, 1, none⟩ u1).setCell ⟨w.heap.size + 1, 2, none⟩ u2).setCell ⟨w.heap.size + 1, 3, none⟩ u3) := fun k u0 u1 u2 u3 =>
    (((((K0.trans ((Kc k).mono (by simp; omega))).setCell (p := ⟨w.heap.size + 1, 0, none⟩) (Nat.le_succ _) u0).setCell (p := ⟨w.heap.size + 1, 1, none⟩) (Nat.le_succ _) u1).setCell (p := ⟨w.heap.size + 1, 2, none⟩) (Nat.le_succ _) u2).setCell (p := ⟨w.heap.size + 1, 3, none⟩) (Nat.le_succ _) u3)
  clear Kb Kc C n1
  generalize ((w.alloc (.cells #[.bool ng, .string s, .int .i64 P] 23)).alloc (.cells #[.bool false, .string ⟨#[]⟩, .int .i64 0, .int .i64 0] 79)) = w2 at *
  go_loopg [4, 5] N (fun c fv ev wr => ∃ (i : Nat) (f e : Int), i ≤ N ∧ c = N - i ∧ fv = .int .i64 f ∧ ev = .int .i64 e ∧ wr = w2.iter s i ∧ Ends es N i f e ∧ ∀ j, j < i → 48 ≤ Nt.lb es j ∧ Nt.lb es j ≤ 57)
  case atStart => exact ⟨0, N, 0, by omega, rfl, rfl, rfl, rfl, .inl ⟨rfl, rfl, fun j hj => absurd hj (by omega)⟩, fun j hj => absurd hj (by omega)⟩
  case round =>
    obtain ⟨i, f, e, hi, hgi, rfl, rfl, hw, hE, hD⟩ := hrel
    replace hw := hw.symm
    subst hw
    have HE := hide hE
    have HJ := hide (show (48 ≤ Nt.lb es i ∧ Nt.lb es i ≤ 57) → ∀ j, j < i + 1 → 48 ≤ Nt.lb es j ∧ Nt.lb es j ≤ 57 from fun g j hj => by
      rcases Nat.lt_or_ge j i with k | k
      · exact hD j k
      · rw [show j = i by omega]; exact g)
    have HD := hide hD
    clear hE hD
    by_cases hiN : i < N
    · have his : i < s.size := by omega
      have hb := Hix.out i his
      by_cases ha : (s[i]'his).toNat < 128
      · obtain ⟨d, hdd⟩ : ∃ d, Nt.lb es i = d := ⟨_, rfl⟩
        rw [hdd] at hb
        have hnx : ∀ ty, (Instr.next (.pointer (some ⟨w.heap.size + 1 + 1, 0, none⟩)) true ty).run Tryz.prog (w2.iter s i) = .ok (.tuple #[.bool true, .int .i64 i, .int .i32 d]) (w2.iter s (i + 1)) := fun ty => by rw [← z2, ← hb]; exact run_next_ascii w2 s i ty his ha
        have Hdd := hide hdd
        clear hdd
        by_cases l0 : d < 48
        · go_wp2
          (try simp only [Exit.inBlock, Exit.then])
          refine bodyPost_ret (v := .tuple #[.agg #[.bool false, .string ⟨#[]⟩, .int .i64 0, .int .i64 0], .bool false]) (by rw [results_cell_tmp rfl]; go_simp) rfl ?_
          exact ⟨Kit _ _ _ _ _, .inl ⟨not_dg (by rw [HN.out]; exact hiN) (by rw [Hdd.out]; omega), rfl⟩⟩
        · by_cases l1 : 57 < d
          · go_wp2
            (try simp only [Exit.inBlock, Exit.then])
            refine bodyPost_ret (v := .tuple #[.agg #[.bool false, .string ⟨#[]⟩, .int .i64 0, .int .i64 0], .bool false]) (by rw [results_cell_tmp rfl]; go_simp) rfl ?_
            exact ⟨Kit _ _ _ _ _, .inl ⟨not_dg (by rw [HN.out]; exact hiN) (by rw [Hdd.out]; omega), rfl⟩⟩
          · by_cases l2 : d = 48
            · have l3 : (d != 48) = false := by simp [l2]
              go_wp2
              go_roundg (N - (i + 1))
              case measure => omega
              case rel => exact ⟨i + 1, f, e, by omega, rfl, rfl, rfl, rfl, ends_nought HE.out (by rw [Hdd.out]; exact l2), HJ.out (by rw [Hdd.out]; omega)⟩
            · have l3 : (d != 48) = true := by simp [l2]
              have HM := hide (ends_digit hiN HE.out (by rw [Hdd.out]; exact l2))
              by_cases l4 : (i : Int) < f
              · go_wp2
                go_roundg (N - (i + 1))
                case measure => omega
                case rel => exact ⟨i + 1, i, i + 1, by omega, rfl, rfl, rfl, rfl, by have := HM.out; rwa [show min f (i : Int) = i by omega] at this, HJ.out (by rw [Hdd.out]; omega)⟩
              · go_wp2
                go_roundg (N - (i + 1))
                case measure => omega
                case rel => exact ⟨i + 1, f, i + 1, by omega, rfl, rfl, rfl, rfl, by have := HM.out; rwa [show min f (i : Int) = f by omega] at this, HJ.out (by rw [Hdd.out]; omega)⟩
      · have hnx : ∀ ty, (Instr.next (.pointer (some ⟨w.heap.size + 1 + 1, 0, none⟩)) true ty).run Tryz.prog (w2.iter s i) = .ok (.tuple #[.bool true, .int .i64 i, .int .i32 (Utf8.decode s i).1]) (w2.iter s (i + (Utf8.decode s i).2)) := fun ty => by rw [← z2]; exact run_next_any w2 s i ty his
        obtain ⟨u1, u2⟩ := decode_high s i his (by omega)
        generalize (Utf8.decode s i).1 = r at *
        generalize (Utf8.decode s i).2 = q at *
        have l0 : ¬ (r : Int) < 48 := by omega
        have l1 : 57 < (r : Int) := by omega
        go_wp2
        (try simp only [Exit.inBlock, Exit.then])
        refine bodyPost_ret (v := .tuple #[.agg #[.bool false, .string ⟨#[]⟩, .int .i64 0, .int .i64 0], .bool false]) (by rw [results_cell_tmp rfl]; go_simp) rfl ?_
        exact ⟨Kit _ _ _ _ _, .inl ⟨not_dg (by rw [HN.out]; exact hiN) (by omega), rfl⟩⟩
    · have his : ¬ i < s.size := by omega
      have hnx : ∀ ty, (Instr.next (.pointer (some ⟨w.heap.size + 1 + 1, 0, none⟩)) true ty).run Tryz.prog (w2.iter s i) = .ok (.tuple #[.bool false]) (w2.iter s i) := fun ty => by rw [← z2]; exact run_next_end w2 s i ty his
      have hiE : i = N := by omega
      have HDg := hide (all_dg (es := es) (fun j hj => HD.out j (by rw [HN.out] at hj; omega)))
      subst hiE
      rcases HE.out with ⟨h1, h2, h3⟩ | ⟨a, b, h1, h2, h3, h4, h5, h6, h7, h8⟩
      · subst h1 h2
        have H3 := hide h3
        clear h3
        go_wp2
        (try simp only [Exit.inBlock, Exit.then])
        refine bodyPost_ret (v := .tuple #[.agg #[.bool ng, .string ⟨#[]⟩, .int .i64 0, .int .i64 0], .bool true]) (by rw [results_cell_tmp rfl]; go_simp) rfl ?_
        exact ⟨Kit _ _ _ _ _, .inr (.inl ⟨HDg.out, H3.out, rfl⟩)⟩
      · subst h1 h2
        have H5 := hide (And.intro h5 (And.intro h6 (And.intro h7 h8)))
        clear h5 h6 h7 h8
        have hb0 : ((b : Int) == 0) = false := by simp; omega
        have hc := txt_cut es a b
        rw [← HS.out] at hc
        have hab : a ≤ b := by omega
        have hbs : b ≤ i := by omega
        have hbs2 : b ≤ s.size := by omega
        go_upto_region 11 with fail
        have q0 := g0 i
        have q1 := g1 i
        have q2 := g2 i
        go_region
        go_wp2
        (try simp only [Exit.inBlock, Exit.then])
        refine bodyPost_ret (v := .tuple #[.agg #[.bool ng, .string (strOfNums ((es.take b).drop a)), .int .i64 P, .int .i64 a], .bool true]) (by rw [results_cell_tmp rfl]; go_simp) rfl ?_
        refine ⟨?_, .inr (.inr ⟨HDg.out, a, b, by omega, by omega, H5.out.1, H5.out.2.1, H5.out.2.2.1, H5.out.2.2.2, rfl⟩)⟩
        have k := Kit i (.bool ng) (.string (strOfNums ((es.take b).drop a))) (.int .i64 P) (.int .i64 a)
        exact ⟨k.os, k.tape, k.output, k.size, k.block⟩

end Go.Proofs.YtigehipclkoecaaGreatDoor
