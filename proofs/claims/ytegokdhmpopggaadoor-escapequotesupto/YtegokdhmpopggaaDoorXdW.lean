/- ref10.Unquote; EscapeScans, EscapeUnquotes: the walks -/
import Derived.Test.YtegokdhmpopggaaDoorXdV
import Derived.Test.YtegokdhmpopggaaDoorXLives
namespace Go.Proofs.YtegokdhmpopggaaDoor
open Go.RowKit
set_option linter.unusedVariables false

theorem xrun_le {σ : XS} {cs t u : List Int} {k n : Nat} (h : xRun σ cs t k = .ok u n) : n ≤ k + cs.length := by
  induction cs generalizing σ t k with
  | nil => cases h
  | cons c cs ih =>
    rw [xRun] at h
    cases hs : xStep σ c with
    | none => rw [hs] at h; cases h
    | some q =>
      obtain ⟨τ, v⟩ := q
      rw [hs] at h
      simp only at h
      by_cases hf : τ = .fin
      · rw [if_pos hf] at h; cases h; simp
      · rw [if_neg hf] at h
        have := ih h
        simp; omega
theorem results_tc {fn : Func} {t1 p : Tmp} {ty : TypeId} (h : fn.results = #[.tmp t1, .cell p ty]) (tmps : Array Value) (P : Program) (w : World) :
    (results fn tmps).run P w = (((asAddr (tmps.getD p undef)).run P w).andThen fun a w₁ => (loadVar ty a).run P w₁).andThen fun v w₂ => .ok (.tuple #[tmps.getD t1 undef, v]) w₂ := by
  simp only [results, h]
  simp [Sem.run_bind, Result.andThen]
  cases (asAddr (tmps[p]?.getD undef)).run P w with
  | ok a w1 => cases (loadVar ty a).run P w1 <;> rfl
  | halt a w1 => rfl
def RUnq (w : World) (ls : List Int) (e : Ending) (w' : World) : Prop :=
  ((∃ t, xRun .start ls [] 0 = .ok t ls.length ∧ e = .returned (.tuple #[.string (strOfNums t), fltV 0 0]))
  ∨ (∃ t n, xRun .start ls [] 0 = .ok t n ∧ n < ls.length ∧ e = .returned (.tuple #[.string ⟨#[]⟩, fltV 3 n]))
  ∨ (∃ n : Nat, xRun .start ls [] 0 = .bad n ∧ e = .returned (.tuple #[.string ⟨#[]⟩, fltV 3 n]))) ∧ Below w.heap.size w w'
set_option maxRecDepth 100000 in
set_option maxHeartbeats 4000000 in
theorem runquote {w : World} {s : ByteArray} {ls : List Int} (hb : uByt ls) (hs : s = strOfNums ls) (hl : ls.length ≤ 140737488351232) : Calls Tryd.prog 16 #[.string s] w (RUnq w ls) := by
  have hsz : s.size = ls.length := by rw [hs, strOfNums_size]
  have C := hide (rscan_any (w := w.alloc (.cells #[.int .i64 0, .int .i64 0, .string ⟨#[]⟩] 30)) (at_ := 0) hb hs hl)
  have hB1 : Below w.heap.size w (w.alloc (.cells #[.int .i64 0, .int .i64 0, .string ⟨#[]⟩] 30)) := (Below.refl _ _).alloc (Nat.le_refl _) _
  obtain ⟨G, hG⟩ : ∃ G, w.heap.size = G := ⟨_, rfl⟩
  have hN := heap_alloc_new w (.cells #[.int .i64 0, .int .i64 0, .string ⟨#[]⟩] 30)
  have hS1 : (w.alloc (.cells #[.int .i64 0, .int .i64 0, .string ⟨#[]⟩] 30)).heap.size = G + 1 := by rw [← hG]; simp
  rw [hG] at hN hB1
  have HN := hide (show _ ∧ _ ∧ _ ∧ _ from ⟨hN, hB1, hS1, hG⟩)
  obtain ⟨L, hL⟩ : ∃ L, ls.length = L := ⟨_, rfl⟩
  have HL := hide hL
  rw [hL] at hsz
  clear hN hB1 hS1 hb hs hl hL
  go_enter Tryd.func16, Tryd.ntmps16
  go_wp2_with fail
  refine C.out.mono ?_
  rintro e w2 ⟨hR, b2⟩
  obtain ⟨n1, n2, n3, n4⟩ := HN.out
  rw [n3] at b2
  have hlt : G < w2.heap.size := by have := b2.size; omega
  have g2 : w2.heap[G]? = some (.cells #[.int .i64 0, .int .i64 0, .string ⟨#[]⟩] 30) := by rw [b2.block _ (by omega)]; exact n1
  have B2 := hide (show Below G w w2 from n2.trans (b2.mono (by omega)))
  have z0 : w2.cell? ⟨G, 0, none⟩ = some (.int .i64 0) := Lib.cell_of_heap g2 0
  have z1 : w2.cell? ⟨G, 1, none⟩ = some (.int .i64 0) := Lib.cell_of_heap g2 1
  have z2 : w2.cell? ⟨G, 2, none⟩ = some (.string ⟨#[]⟩) := Lib.cell_of_heap g2 2
  have y0 : w2.frozen? ⟨G, 0, none⟩ = false := frozen_of_row _ G 0 _ _ g2
  have y1 : w2.frozen? ⟨G, 1, none⟩ = false := frozen_of_row _ G 1 _ _ g2
  have y2 : w2.frozen? ⟨G, 2, none⟩ = false := frozen_of_row _ G 2 _ _ g2
  have hne : ¬ (G = w2.heap.size) := by omega
  clear n1 n2 n3 g2 b2 C
  rcases hR with ⟨hn, rfl⟩ | ⟨k, hk, hkl, ⟨t, n, hx, rfl⟩ | ⟨n, hx, rfl⟩⟩
  · exact absurd ⟨Int.le_refl 0, by have := HL.out; omega⟩ hn
  · have hk0 : k = 0 := by omega
    subst hk0
    rw [List.drop_zero] at hx
    have hle := xrun_le hx
    rw [HL.out] at hle
    by_cases hn : n < L
    · have hn' : (n : Int) < (L : Int) := by omega
      have HR := hide (show ∀ W, Below G w W → RUnq w ls (.returned (.tuple #[.string ⟨#[]⟩, fltV 3 n])) W from fun W hW => ⟨Or.inr (Or.inl ⟨t, n, hx, by rw [HL.out]; exact hn, rfl⟩), by rw [n4]; exact hW⟩)
      clear hx hle hk hkl
      obtain ⟨ts, hts⟩ : ∃ ts, strOfNums t = ts := ⟨_, rfl⟩
      rw [hts]
      clear hts
      simp only [fltV]
      go_wp2
      refine bodyPost_ret (v := .tuple #[.string ⟨#[]⟩, fltV 3 n]) (by rw [results_tc rfl]; simp only [fltV]; go_simp) rfl (HR.out _ ?_)
      first
        | exact bel_put (bel_put (bel_put (B2.out.trans ((Below.refl G w2).alloc (by omega) _)) (Nat.le_refl _) _) (Nat.le_refl _) _) (Nat.le_refl _) _
        | exact (bel_put (bel_put (bel_put B2.out (Nat.le_refl _) _) (Nat.le_refl _) _) (Nat.le_refl _) _).trans ((Below.refl G _).alloc (by simp [World.setCell]; omega) _)
    · have hn' : ¬ ((n : Int) < (L : Int)) := by omega
      have hnL : n = ls.length := by have := HL.out; omega
      have HR := hide (show ∀ W, Below G w W → RUnq w ls (.returned (.tuple #[.string (strOfNums t), fltV 0 0])) W from fun W hW => ⟨Or.inl ⟨t, by rw [hx, hnL], rfl⟩, by rw [n4]; exact hW⟩)
      clear hx hle hk hkl hnL
      obtain ⟨ts, hts⟩ : ∃ ts, strOfNums t = ts := ⟨_, rfl⟩
      rw [hts] at HR ⊢
      clear hts
      simp only [fltV]
      go_wp2_with fail
      first | go_region | skip
      go_wp2
      refine bodyPost_ret (v := .tuple #[.string ts, fltV 0 0]) (by rw [results_tc rfl]; simp only [fltV]; go_simp) rfl (HR.out _ ?_)
      first
        | exact (bel_put (bel_put (bel_put (B2.out.trans ((Below.refl G w2).alloc (by omega) _)) (Nat.le_refl _) _) (Nat.le_refl _) _) (Nat.le_refl _) _).trans (Below.refl _ _).drew
        | exact ((bel_put (bel_put (bel_put B2.out (Nat.le_refl _) _) (Nat.le_refl _) _) (Nat.le_refl _) _).trans ((Below.refl G _).alloc (by simp [World.setCell]; omega) _)).trans (Below.refl _ _).drew
  · have hk0 : k = 0 := by omega
    subst hk0
    rw [List.drop_zero] at hx
    have HR := hide (show ∀ W, Below G w W → RUnq w ls (.returned (.tuple #[.string ⟨#[]⟩, fltV 3 n])) W from fun W hW => ⟨Or.inr (Or.inr ⟨n, hx, rfl⟩), by rw [n4]; exact hW⟩)
    clear hx hk hkl
    simp only [fltV]
    go_wp2_with fail
    first | go_region | skip
    go_wp2
    refine bodyPost_ret (v := .tuple #[.string ⟨#[]⟩, fltV 3 n]) (by rw [results_tc rfl]; simp only [fltV]; go_simp) rfl (HR.out _ ?_)
    first
      | exact (bel_put (bel_put (bel_put (B2.out.trans ((Below.refl G w2).alloc (by omega) _)) (Nat.le_refl _) _) (Nat.le_refl _) _) (Nat.le_refl _) _).trans (Below.refl _ _).drew
      | exact ((bel_put (bel_put (bel_put B2.out (Nat.le_refl _) _) (Nat.le_refl _) _) (Nat.le_refl _) _).trans ((Below.refl G _).alloc (by simp [World.setCell]; omega) _)).trans (Below.refl _ _).drew

end Go.Proofs.YtegokdhmpopggaaDoor
