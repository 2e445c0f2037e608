/- ref10.Scan: its loop -/
import Derived.Test.YtegokdhmpopggaaDoorXdU
namespace Go.Proofs.YtegokdhmpopggaaDoor
open Go.RowKit
set_option linter.unusedVariables false

theorem Fr.putNew {p G i : Nat} {o1 o2 : Value} {w w' : World} (h : Fr p o1 o2 w w') (hG : w.heap.size ≤ G) (u : Value) : Fr p o1 o2 w (w'.setCell ⟨G, i, Option.none⟩ u) :=
  ⟨h.os, h.tape, h.output, by have := h.size; simpa [World.setCell] using this, fun k hk hp ho => (Below.heap_setCell _ _ _ _ (show k ≠ G by omega)).trans (h.block k hk hp ho), h.own⟩
theorem bel_put {B G i : Nat} {w w' : World} (h : Below B w w') (hG : B ≤ G) (u : Value) : Below B w (w'.setCell ⟨G, i, none⟩ u) :=
  ⟨h.os, h.tape, h.output, by have := h.size; simpa [World.setCell] using this, fun k hk => (Below.heap_setCell _ _ _ _ (show k ≠ G by omega)).trans (h.block k hk)⟩
/-- a literal's state, and how far it is -/
def Xat (w : World) (B p : Nat) (tv : Value) (ls : List Int) (k0 j : Nat) : Prop :=
  ∃ es d σ, DcS w B p tv es d ∧ XRep σ d.lm d.l d.n d.h d.lo d.mo ∧ xOk σ ∧ σ ≠ .fin ∧ es.length + pend σ ≤ j - k0 ∧ xRun .start (ls.drop k0) [] k0 = xRun σ (ls.drop j) es j
theorem drop_at {ls : List Int} {j : Nat} (h : j < ls.length) : ls.drop j = Nt.lb ls j :: ls.drop (j + 1) := by
  rw [List.drop_eq_getElem_cons h]
  simp [Nt.lb, h]
set_option maxRecDepth 100000 in
set_option maxHeartbeats 4000000 in
theorem rscan_in {w : World} {s : ByteArray} {ls : List Int} {k0 : Nat} (hb : uByt ls) (hs : s = strOfNums ls) (hl : ls.length ≤ 140737488351232) (hk0 : k0 ≤ ls.length) :
    Calls Tryd.prog 12 #[.string s, .int .i64 k0] w (RSc w ls k0) := by
  have hsz : s.size = ls.length := by rw [hs, strOfNums_size]
  have Hix := hide (show ∀ q (g : q < s.size), (((s[q]'g).toNat : Nat) : Int) = Nt.lb ls q from fun q g => by subst hs; exact utxt_at g hb)
  have HBy := hide (show ∀ q, q < ls.length → 0 ≤ Nt.lb ls q ∧ Nt.lb ls q < 256 from fun q g => by have := hb _ (List.getElem_mem g); simpa [Nt.lb, g] using this)
  have HDr := hide (show ∀ j, j < ls.length → ls.drop j = Nt.lb ls j :: ls.drop (j + 1) from fun j h => drop_at h)
  have HK0 := hide hk0
  have HLL := hide hl
  obtain ⟨L, hL⟩ : ∃ L, ls.length = L := ⟨_, rfl⟩
  have HL := hide hL
  rw [hL] at hsz hk0
  have a1 : ¬ ((k0 : Int) < 0) := by omega
  have a2 : ¬ ((L : Int) < (k0 : Int)) := by omega
  obtain ⟨G, hG⟩ : ∃ G, w.heap.size = G := ⟨_, rfl⟩
  have hB1 : Below G w ((w.alloc (.cells #[.int .i64 0, .int .i64 0, .string ⟨#[]⟩] 30)).alloc (.cells #[.int .i64 0, .int .i64 0, .int .i64 0, .int .i64 0, .int .u8 0, .int .u8 0, .slice none 0 0] 58)) := by
    rw [← hG]; exact ((Below.refl _ _).alloc (Nat.le_refl _) _).alloc (by simp) _
  have hG1 : ((w.alloc (.cells #[.int .i64 0, .int .i64 0, .string ⟨#[]⟩] 30)).alloc (.cells #[.int .i64 0, .int .i64 0, .int .i64 0, .int .i64 0, .int .u8 0, .int .u8 0, .slice none 0 0] 58)).heap[G]? = some (.cells #[.int .i64 0, .int .i64 0, .string ⟨#[]⟩] 30) := by
    rw [← hG, Below.heap_alloc _ _ _ (by simp)]; exact heap_alloc_new w _
  have hP1 : ((w.alloc (.cells #[.int .i64 0, .int .i64 0, .string ⟨#[]⟩] 30)).alloc (.cells #[.int .i64 0, .int .i64 0, .int .i64 0, .int .i64 0, .int .u8 0, .int .u8 0, .slice none 0 0] 58)).heap[G + 1]? = some (.cells #[.int .i64 0, .int .i64 0, .int .i64 0, .int .i64 0, .int .u8 0, .int .u8 0, .slice none 0 0] 58) := by
    have e : G + 1 = (w.alloc (.cells #[.int .i64 0, .int .i64 0, .string ⟨#[]⟩] 30)).heap.size := by rw [← hG]; simp
    rw [e]; exact heap_alloc_new _ _
  have hS1 : ((w.alloc (.cells #[.int .i64 0, .int .i64 0, .string ⟨#[]⟩] 30)).alloc (.cells #[.int .i64 0, .int .i64 0, .int .i64 0, .int .i64 0, .int .u8 0, .int .u8 0, .slice none 0 0] 58)).heap.size = G + 2 := by rw [← hG]; simp
  clear hb hs hl hL
  go_enter Tryd.func12, Tryd.ntmps12
  go_wp2
  obtain ⟨W0, hW0⟩ : ∃ W0, ((w.alloc (.cells #[.int .i64 0, .int .i64 0, .string ⟨#[]⟩] 30)).alloc (.cells #[.int .i64 0, .int .i64 0, .int .i64 0, .int .i64 0, .int .u8 0, .int .u8 0, .slice none 0 0] 58)) = W0 := ⟨_, rfl⟩
  try rw [hW0]
  rw [hW0] at hB1 hG1 hP1 hS1
  have HX0 := hide (show Xat W0 (G + 1) (G + 1) (.slice none 0 0) ls k0 k0 from ⟨[], ⟨0, [], 0, 0, 0, 0, 0, 0, false, [], 0, 0, 0⟩, .start, ⟨hP1, World.ownsRow_nil _ _ _ _, Nat.le_refl _⟩, ⟨rfl, rfl⟩, trivial, nofun, by simp [pend], rfl⟩)
  have HW := hide (show _ ∧ _ ∧ _ ∧ _ from ⟨hB1, hG1, hS1, hG⟩)
  clear hB1 hG1 hP1 hS1 hW0
  obtain ⟨p, hp⟩ : ∃ p, G + 1 = p := ⟨_, rfl⟩
  rw [hp] at HX0 ⊢
  have hne : ¬ (G = p) := by omega
  have HPG := hide hp
  clear hp
  have HB0 := hide (show ∀ wr tv1, Fr p (.slice none 0 0) tv1 W0 wr → Below G w wr from fun wr tv1 f => by
    have hp := HPG.out
    obtain ⟨b1, b2, b3, b4⟩ := HW.out
    exact b1.trans (f.below (by omega) (by omega) (fun k e => by simp [Value.ownBlock] at e)))
  have HGc := hide (show ∀ wr tv1, Fr p (.slice none 0 0) tv1 W0 wr → wr.heap[G]? = some (.cells #[.int .i64 0, .int .i64 0, .string ⟨#[]⟩] 30) from fun wr tv1 f => by
    obtain ⟨b1, b2, b3, b4⟩ := HW.out
    rw [f.block G (by omega) hne (fun e => by simp [Value.ownBlock] at e)]
    exact b2)
  have HEnd := hide (show ∀ (wr : World) (tv1 : Value) (e : Ending) (x y : Int), Fr p (.slice none 0 0) tv1 W0 wr → RScan ls k0 e → RSc w ls k0 e (((wr.setCell ⟨G, 0, none⟩ (.int .i64 x)).setCell ⟨G, 1, none⟩ (.int .i64 y)).setCell ⟨G, 2, none⟩ (.string ⟨#[]⟩)) from fun wr tv1 e x y f hr => by
    refine ⟨hr, ?_⟩
    have h4 := HW.out.2.2.2
    rw [h4]
    exact bel_put (bel_put (bel_put (HB0.out wr tv1 f) (Nat.le_refl _) _) (Nat.le_refl _) _) (Nat.le_refl _) _)
  go_loopg [8] (L - k0) (fun c i wr => ∃ (j : Nat) (tv1 : Value), k0 ≤ j ∧ j ≤ L ∧ i = .int .i64 j ∧ c = L - j ∧ Hid (Xat wr p p tv1 ls k0 j) ∧ Hid (Fr p (.slice none 0 0) tv1 W0 wr))
  case atStart => exact ⟨k0, _, Nat.le_refl _, by omega, rfl, rfl, hide HX0.out, hide (Fr.refl _ _ _)⟩
  case round =>
    obtain ⟨j, tv1, h1, h2, rfl, hc, HX, HF⟩ := hrel
    obtain ⟨es, d, σ, e1, e2, e3, e4, e5, e6⟩ := HX.out
    by_cases hj : j < L
    · have p1 : (j : Int) < (L : Int) := by omega
      have p2 : (0 : Int) ≤ (j : Int) := by omega
      have hLL := HLL.out
      have hLe := HL.out
      have hjc : j < s.size := by omega
      have hix := Hix.out j hjc
      have hcb := HBy.out j (by omega)
      have hdr := HDr.out j (by omega)
      obtain ⟨c, hcc⟩ : ∃ c, Nt.lb ls j = c := ⟨_, rfl⟩
      rw [hcc] at hix hcb hdr
      rw [hdr] at e6
      have CT := hide (show Calls Tryd.prog 27 #[.pointer (some ⟨p, 0, none⟩), .int .u8 c] wr (StepOut wr p p tv1 es d σ c) from dStepA e1 e2 e3 e4 hcb.1 hcb.2 (by omega))
      have HE := hide (show _ ∧ _ ∧ _ ∧ _ from ⟨e3, e4, e5, e6⟩)
      have p3 : (j : Int) + 1 ≤ 9223372036854775807 := by omega
      have HJ := hide (show _ ∧ _ from ⟨h1, hj⟩)
      clear e1 e2 e3 e4 e5 e6 HX hdr hcb hcc hLL hLe
      go_wp2_with fail
      refine CT.out.mono ?_
      rintro e w2 ⟨ok, tv2, es2, lm, l1, n1, h1', lo, mo, rfl, q1, q2, q3⟩
      have F2 := hide (HF.out.trans q2)
      have hGb := HGc.out w2 tv2 F2.out
      have z0 : w2.cell? ⟨G, 0, none⟩ = some (.int .i64 0) := Lib.cell_of_heap hGb 0
      have z1 : w2.cell? ⟨G, 1, none⟩ = some (.int .i64 0) := Lib.cell_of_heap hGb 1
      have z2 : w2.cell? ⟨G, 2, none⟩ = some (.string ⟨#[]⟩) := Lib.cell_of_heap hGb 2
      have y0 : w2.frozen? ⟨G, 0, none⟩ = false := frozen_of_row _ G 0 _ _ hGb
      have y1 : w2.frozen? ⟨G, 1, none⟩ = false := frozen_of_row _ G 1 _ _ hGb
      have y2 : w2.frozen? ⟨G, 2, none⟩ = false := frozen_of_row _ G 2 _ _ hGb
      have c3 := (df_of q1.blk).c3
      have c9 := (df_of q1.blk).c9
      simp only at c3
      have hcv := conv_own q1.own
      have Q1 := hide q1
      clear q1 q2 CT hGb
      rcases q3 with ⟨rfl, τ, u, s1, s2, s3⟩ | ⟨rfl, s1⟩
      · by_cases hf : τ = .fin
        · subst hf
          have h7 : lm = 7 := s3
          subst h7
          have hrun : xRun .start (ls.drop k0) [] k0 = .ok es2 (j + 1) := by rw [HE.out.2.2.2, xRun_fin s1, s2]
          obtain ⟨ts, hts⟩ : ∃ ts, strOfNums es2 = ts := ⟨_, rfl⟩
          rw [hts] at hcv
          have FIN := hide (HEnd.out w2 tv2 (.returned (.tuple #[.string ts, .int .i64 ((j : Int) + 1), fltV 0 0])) 0 0 F2.out (Or.inr ⟨k0, rfl, HK0.out, Or.inl ⟨es2, j + 1, hrun, by rw [hts]; rfl⟩⟩))
          clear hrun hts s1 s2 s3 HE
          obtain ⟨fa, fl, fc, hform⟩ := own_form Q1.out.own
          subst hform
          go_wp2
          refine bodyPost_ret (v := .tuple #[.string ts, .int .i64 ((j : Int) + 1), fltV 0 0]) (by rw [results_ttc rfl]; simp only [fltV]; go_simp) rfl FIN.out
        · have h7 := xrep_7 s3 hf
          have N := hide (show Xat w2 p p tv2 ls k0 (j + 1) from ⟨es2, _, τ, Q1.out, s3, xOk_step HE.out.1 s1, hf, by
            have := pend_step HE.out.1 s1
            have h5 := HE.out.2.2.1
            have h6 := HJ.out.1
            rw [s2]; simp only [List.length_append]; omega, by rw [HE.out.2.2.2, xRun_step s1 hf, s2]⟩)
          clear s1 s2 s3 HE Q1 hcv c9
          go_wp2
          go_roundg (L - (j + 1))
          case measure => omega
          case rel => exact ⟨j + 1, tv2, by omega, by omega, by go_num, rfl, hide N.out, F2⟩
      · have hrun : xRun .start (ls.drop k0) [] k0 = .bad j := by rw [HE.out.2.2.2, xRun_bad s1]
        have FIN := hide (HEnd.out w2 tv2 (.returned (.tuple #[.string ⟨#[]⟩, .int .i64 0, fltV 3 j])) 3 j F2.out (Or.inr ⟨k0, rfl, HK0.out, Or.inr ⟨j, hrun, rfl⟩⟩))
        clear hrun s1 HE hcv c9 c3 Q1
        go_wp2
        refine bodyPost_ret (v := .tuple #[.string ⟨#[]⟩, .int .i64 0, fltV 3 j]) (by rw [results_ttc rfl]; simp only [fltV]; go_simp) rfl FIN.out
    · have p1 : ¬ ((j : Int) < (L : Int)) := by omega
      have hjl : j = ls.length := by have := HL.out; omega
      have hrun : xRun .start (ls.drop k0) [] k0 = .bad L := by
        rw [e6, hjl, List.drop_length, HL.out]; rfl
      have hGb := HGc.out wr tv1 HF.out
      have z0 : wr.cell? ⟨G, 0, none⟩ = some (.int .i64 0) := Lib.cell_of_heap hGb 0
      have z1 : wr.cell? ⟨G, 1, none⟩ = some (.int .i64 0) := Lib.cell_of_heap hGb 1
      have z2 : wr.cell? ⟨G, 2, none⟩ = some (.string ⟨#[]⟩) := Lib.cell_of_heap hGb 2
      have y0 : wr.frozen? ⟨G, 0, none⟩ = false := frozen_of_row _ G 0 _ _ hGb
      have y1 : wr.frozen? ⟨G, 1, none⟩ = false := frozen_of_row _ G 1 _ _ hGb
      have y2 : wr.frozen? ⟨G, 2, none⟩ = false := frozen_of_row _ G 2 _ _ hGb
      have FIN := hide (HEnd.out wr tv1 (.returned (.tuple #[.string ⟨#[]⟩, .int .i64 0, fltV 3 L])) 3 L HF.out (Or.inr ⟨k0, rfl, HK0.out, Or.inr ⟨L, hrun, rfl⟩⟩))
      clear hrun hjl e1 e2 e3 e4 e5 e6 HX hGb
      go_wp2
      refine bodyPost_ret (v := .tuple #[.string ⟨#[]⟩, .int .i64 0, fltV 3 L]) (by rw [results_ttc rfl]; simp only [fltV]; go_simp) rfl FIN.out
theorem rscan_any {w : World} {s : ByteArray} {ls : List Int} {at_ : Int} (hb : uByt ls) (hs : s = strOfNums ls) (hl : ls.length ≤ 140737488351232) : Calls Tryd.prog 12 #[.string s, .int .i64 at_] w (RSc w ls at_) := by
  by_cases h : 0 ≤ at_ ∧ at_ ≤ ls.length
  · obtain ⟨k, rfl⟩ : ∃ k : Nat, at_ = k := ⟨at_.toNat, by omega⟩
    exact rscan_in hb hs hl (by omega)
  · exact rscan_arg hs hl h

end Go.Proofs.YtegokdhmpopggaaDoor
