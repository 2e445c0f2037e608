/- ref10.IsText -/
import Derived.Test.YtegokdhmpopggaaDoorXdW
namespace Go.Proofs.YtegokdhmpopggaaDoor
open Go.RowKit
set_option linter.unusedVariables false

/-- between code points, or within one -/
def Tst (σ : XS) : Prop := σ = .inn ∨ ∃ l lo mo, σ = .byts l lo mo
theorem tst_step {σ τ : XS} {c : Int} {u : List Int} (h : Tst σ) (hs : xStep σ (xSub σ c) = some (τ, u)) : Tst τ := by
  rcases h with rfl | ⟨l, lo, mo, rfl⟩
  · by_cases g : c < 32 ∨ c = 34 ∨ c = 92
    · have e : xSub .inn c = 97 := by unfold xSub; rw [if_pos ⟨rfl, g⟩]
      rw [e] at hs
      cases hs
      exact Or.inl rfl
    · have e : xSub .inn c = c := by unfold xSub; rw [if_neg (fun k => g k.2)]
      rw [e] at hs
      change xIn c = _ at hs
      unfold xIn at hs
      rw [if_neg (by omega), if_neg (by omega)] at hs
      split at hs
      · cases hs
      · split at hs
        · cases hs; exact Or.inl rfl
        · cases hs; exact Or.inr ⟨_, _, _, rfl⟩
  · rw [xSub_byts] at hs
    change xByt l lo mo c = _ at hs
    unfold xByt at hs
    split at hs
    · cases hs
    · cases hs
      split
      · exact Or.inl rfl
      · exact Or.inr ⟨_, _, _, rfl⟩
theorem Tst.fin {σ : XS} (h : Tst σ) : σ ≠ .fin := by rcases h with rfl | ⟨l, lo, mo, rfl⟩ <;> exact nofun
theorem Tst.mode {σ : XS} {lm l n hh lo mo : Int} (h : Tst σ) (hr : XRep σ lm l n hh lo mo) : (lm = 1 ∧ σ = .inn) ∨ (lm = 6 ∧ σ ≠ .inn) := by
  rcases h with rfl | ⟨l', lo', mo', rfl⟩
  · exact Or.inl ⟨hr.1, rfl⟩
  · exact Or.inr ⟨hr.1, nofun⟩
/-- how far the look is -/
def Tat (w : World) (B p : Nat) (tv : Value) (ls : List Int) (j : Nat) : Prop :=
  ∃ es d σ, DcS w B p tv es d ∧ XRep σ d.lm d.l d.n d.h d.lo d.mo ∧ xOk σ ∧ Tst σ ∧ es.length + pend σ ≤ j ∧ xTxt .inn ls = xTxt σ (ls.drop j)
def RTx (w : World) (ls : List Int) (e : Ending) (w' : World) : Prop := e = .returned (.bool (xTxt .inn ls)) ∧ Below w.heap.size w w'
set_option maxRecDepth 100000 in
set_option maxHeartbeats 4000000 in
theorem ristext {w : World} {s : ByteArray} {ls : List Int} (hb : uByt ls) (hs : s = strOfNums ls) (hl : ls.length ≤ 140737488351232) : Calls Tryd.prog 24 #[.string s] w (RTx w ls) := by
  have hsz : s.size = ls.length := by rw [hs, strOfNums_size]
  have Hix := hide (show ∀ q (g : q < s.size), (((s[q]'g).toNat : Nat) : Int) = Nt.lb ls q from fun q g => by subst hs; exact utxt_at g hb)
  have HBy := hide (show ∀ q, q < ls.length → 0 ≤ Nt.lb ls q ∧ Nt.lb ls q < 256 from fun q g => by have := hb _ (List.getElem_mem g); simpa [Nt.lb, g] using this)
  have HDr := hide (show ∀ j, j < ls.length → ls.drop j = Nt.lb ls j :: ls.drop (j + 1) from fun j h => drop_at h)
  have HLL := hide hl
  obtain ⟨L, hL⟩ : ∃ L, ls.length = L := ⟨_, rfl⟩
  have HL := hide hL
  rw [hL] at hsz
  have hN := heap_alloc_new w (.cells #[.int .i64 1, .int .i64 0, .int .i64 0, .int .i64 0, .int .u8 0, .int .u8 0, .slice none 0 0] 58)
  have hB1 : Below w.heap.size w (w.alloc (.cells #[.int .i64 1, .int .i64 0, .int .i64 0, .int .i64 0, .int .u8 0, .int .u8 0, .slice none 0 0] 58)) := (Below.refl _ _).alloc (Nat.le_refl _) _
  have HT0 := hide (show Tat (w.alloc (.cells #[.int .i64 1, .int .i64 0, .int .i64 0, .int .i64 0, .int .u8 0, .int .u8 0, .slice none 0 0] 58)) w.heap.size w.heap.size (.slice none 0 0) ls 0 from ⟨[], ⟨0, [], 1, 0, 0, 0, 0, 0, false, [], 0, 0, 0⟩, .inn, ⟨hN, World.ownsRow_nil _ _ _ _, Nat.le_refl _⟩, ⟨rfl, rfl⟩, trivial, Or.inl rfl, by simp [pend], rfl⟩)
  have HB1 := hide hB1
  clear hb hs hl hL hN hB1
  obtain ⟨p, hp⟩ : ∃ p, w.heap.size = p := ⟨_, rfl⟩
  rw [hp] at HT0
  go_enter Tryd.func24, Tryd.ntmps24
  go_wp2
  obtain ⟨W0, hW0⟩ : ∃ W0, w.alloc (.cells #[.int .i64 1, .int .i64 0, .int .i64 0, .int .i64 0, .int .u8 0, .int .u8 0, .slice none 0 0] 58) = W0 := ⟨_, rfl⟩
  try rw [hW0]
  rw [hW0] at HT0 HB1
  have HEnd := hide (show ∀ wr tv1 (b : Bool), Fr p (.slice none 0 0) tv1 W0 wr → xTxt .inn ls = b → RTx w ls (.returned (.bool b)) wr from fun wr tv1 b f hx => by
    refine ⟨by rw [hx], HB1.out.trans (f.below (by omega) (by have := HB1.out.size; omega) (fun k e => by simp [Value.ownBlock] at e))⟩)
  clear hW0 HB1
  go_loopg [4, 5] L (fun c i x5 wr => ∃ (j : Nat) (tv1 : Value), j ≤ L ∧ i = .int .i64 j ∧ c = L - j ∧ Hid (Tat wr p p tv1 ls j) ∧ Hid (Fr p (.slice none 0 0) tv1 W0 wr))
  case atStart => exact ⟨0, _, by omega, rfl, by omega, hide HT0.out, hide (Fr.refl _ _ _)⟩
  case round =>
    obtain ⟨j, tv1, h2, rfl, hc, HX, HF⟩ := hrel
    obtain ⟨es, d, σ, e1, e2, e3, e4, e5, e6⟩ := HX.out
    have c3 := (df_of e1.blk).c3
    by_cases hj : j < L
    · have p1 : (j : Int) < (L : Int) := by omega
      have p2 : (0 : Int) ≤ (j : Int) := by omega
      have hLL := HLL.out
      have hLe := HL.out
      have hjc : j < s.size := by omega
      have hix := Hix.out j hjc
      have hcb := HBy.out j (by omega)
      have hdr := HDr.out j (by omega)
      obtain ⟨c, hcc⟩ : ∃ c, Nt.lb ls j = c := ⟨_, rfl⟩
      rw [hcc] at hix hcb hdr
      rw [hdr] at e6
      have hsb : 0 ≤ xSub σ c ∧ xSub σ c < 256 := by unfold xSub; split <;> omega
      have CT := hide (show Calls Tryd.prog 27 #[.pointer (some ⟨p, 0, none⟩), .int .u8 (xSub σ c)] wr (StepOut wr p p tv1 es d σ (xSub σ c)) from dStepA e1 e2 e3 e4.fin hsb.1 hsb.2 (by omega))
      have HE := hide (show _ ∧ _ ∧ _ ∧ _ from ⟨e3, e4, e5, e6⟩)
      have p3 : (j : Int) + 1 ≤ 9223372036854775807 := by omega
      have hmd := e4.mode e2
      clear e1 e2 e3 e4 e5 e6 HX hdr hcc hLL hLe hsb
      have rest : ∀ (ok : Bool) (tv2 : Value) (es2 : List Int) (lm l1 n1 h1' lo mo : Int) (w2 : World), DcS w2 p p tv2 es2 { d with lm := lm, l := l1, n := n1, h := h1', lo := lo, mo := mo } → Fr p tv1 tv2 wr w2 → ((ok = true ∧ ∃ τ u, xStep σ (xSub σ c) = some (τ, u) ∧ es2 = es ++ u ∧ XRep τ lm l1 n1 h1' lo mo) ∨ (ok = false ∧ xStep σ (xSub σ c) = none)) →
          (ok = false ∧ RTx w ls (.returned (.bool false)) w2) ∨ (ok = true ∧ Tat w2 p p tv2 ls (j + 1) ∧ Fr p (.slice none 0 0) tv2 W0 w2) := fun ok tv2 es2 lm l1 n1 h1' lo mo w2 q1 q2 q3 => by
        obtain ⟨e3, e4, e5, e6⟩ := HE.out
        rcases q3 with ⟨rfl, τ, u, s1, s2, s3⟩ | ⟨rfl, s1⟩
        · refine Or.inr ⟨rfl, ⟨es2, _, τ, q1, s3, xOk_step e3 s1, tst_step e4 s1, ?_, by rw [e6, xTxt_cons s1]⟩, HF.out.trans q2⟩
          have := pend_step e3 s1
          rw [s2]; simp only [List.length_append]; omega
        · exact Or.inl ⟨rfl, HEnd.out w2 tv2 false (HF.out.trans q2) (by rw [e6, xTxt_none s1])⟩
      have REST := hide rest
      clear rest
      have fin : ∀ b : Bool, True := fun _ => trivial
      clear fin
      rcases hmd with ⟨hm, hσ⟩ | ⟨hm, hσ⟩
      · rw [hm] at c3
        by_cases g : c < 32 ∨ c = 34 ∨ c = 92
        · have e : xSub σ c = 97 := by unfold xSub; rw [if_pos ⟨hσ, g⟩]
          rw [e] at CT REST
          clear e hσ hm
          by_cases g1 : c < 32
          · clear g
            go_wp2_with fail
            refine CT.out.mono ?_
            rintro e w2 ⟨ok, tv2, es2, lm, l1, n1, h1', lo, mo, rfl, q1, q2, q3⟩
            rcases REST.out ok tv2 es2 lm l1 n1 h1' lo mo w2 q1 q2 q3 with ⟨rfl, hR⟩ | ⟨rfl, hT, hFF⟩
            · have HR := hide hR
              clear hR q1 q2 q3 REST CT c3
              go_wp2
              go_ret
              exact HR.out
            · have N := hide (And.intro hT hFF)
              clear hT hFF q1 q2 q3 REST CT c3
              go_wp2
              go_roundg (L - (j + 1))
              case measure => omega
              case rel => exact ⟨j + 1, tv2, by omega, by go_num, rfl, hide N.out.1, hide N.out.2⟩
          · by_cases g2 : c = 34
            · subst g2
              clear g g1
              go_wp2_with fail
              refine CT.out.mono ?_
              rintro e w2 ⟨ok, tv2, es2, lm, l1, n1, h1', lo, mo, rfl, q1, q2, q3⟩
              rcases REST.out ok tv2 es2 lm l1 n1 h1' lo mo w2 q1 q2 q3 with ⟨rfl, hR⟩ | ⟨rfl, hT, hFF⟩
              · have HR := hide hR
                clear hR q1 q2 q3 REST CT c3
                go_wp2
                go_ret
                exact HR.out
              · have N := hide (And.intro hT hFF)
                clear hT hFF q1 q2 q3 REST CT c3
                go_wp2
                go_roundg (L - (j + 1))
                case measure => omega
                case rel => exact ⟨j + 1, tv2, by omega, by go_num, rfl, hide N.out.1, hide N.out.2⟩
            · have g3 : c = 92 := by omega
              subst g3
              clear g g1 g2
              go_wp2_with fail
              refine CT.out.mono ?_
              rintro e w2 ⟨ok, tv2, es2, lm, l1, n1, h1', lo, mo, rfl, q1, q2, q3⟩
              rcases REST.out ok tv2 es2 lm l1 n1 h1' lo mo w2 q1 q2 q3 with ⟨rfl, hR⟩ | ⟨rfl, hT, hFF⟩
              · have HR := hide hR
                clear hR q1 q2 q3 REST CT c3
                go_wp2
                go_ret
                exact HR.out
              · have N := hide (And.intro hT hFF)
                clear hT hFF q1 q2 q3 REST CT c3
                go_wp2
                go_roundg (L - (j + 1))
                case measure => omega
                case rel => exact ⟨j + 1, tv2, by omega, by go_num, rfl, hide N.out.1, hide N.out.2⟩
        · have e : xSub σ c = c := by unfold xSub; rw [if_neg (fun k => g k.2)]
          rw [e] at CT REST
          have g1 : ¬ (c < 32) := by omega
          have g2 : (c == 34) = false := by simp; omega
          have g3 : (c == 92) = false := by simp; omega
          clear e hσ hm g
          go_wp2_with fail
          refine CT.out.mono ?_
          rintro e w2 ⟨ok, tv2, es2, lm, l1, n1, h1', lo, mo, rfl, q1, q2, q3⟩
          rcases REST.out ok tv2 es2 lm l1 n1 h1' lo mo w2 q1 q2 q3 with ⟨rfl, hR⟩ | ⟨rfl, hT, hFF⟩
          · have HR := hide hR
            clear hR q1 q2 q3 REST CT c3
            go_wp2
            go_ret
            exact HR.out
          · have N := hide (And.intro hT hFF)
            clear hT hFF q1 q2 q3 REST CT c3
            go_wp2
            go_roundg (L - (j + 1))
            case measure => omega
            case rel => exact ⟨j + 1, tv2, by omega, by go_num, rfl, hide N.out.1, hide N.out.2⟩
      · rw [hm] at c3
        have e : xSub σ c = c := by unfold xSub; rw [if_neg (fun k => hσ k.1)]
        rw [e] at CT REST
        clear e hσ hm
        go_wp2_with fail
        refine CT.out.mono ?_
        rintro e w2 ⟨ok, tv2, es2, lm, l1, n1, h1', lo, mo, rfl, q1, q2, q3⟩
        rcases REST.out ok tv2 es2 lm l1 n1 h1' lo mo w2 q1 q2 q3 with ⟨rfl, hR⟩ | ⟨rfl, hT, hFF⟩
        · have HR := hide hR
          clear hR q1 q2 q3 REST CT c3
          go_wp2
          go_ret
          exact HR.out
        · have N := hide (And.intro hT hFF)
          clear hT hFF q1 q2 q3 REST CT c3
          go_wp2
          go_roundg (L - (j + 1))
          case measure => omega
          case rel => exact ⟨j + 1, tv2, by omega, by go_num, rfl, hide N.out.1, hide N.out.2⟩
    · have p1 : ¬ ((j : Int) < (L : Int)) := by omega
      have hjl : j = ls.length := by have := HL.out; omega
      have hx : xTxt .inn ls = decide (σ = .inn) := by rw [e6, hjl, List.drop_length]; rfl
      rcases e4.mode e2 with ⟨hm, hσ⟩ | ⟨hm, hσ⟩
      · rw [hm] at c3
        have FIN := hide (HEnd.out wr tv1 true HF.out (by rw [hx]; simp [hσ]))
        clear hx hjl e1 e2 e3 e4 e5 e6 HX hσ hm
        go_wp2
        go_ret
        exact FIN.out
      · rw [hm] at c3
        have FIN := hide (HEnd.out wr tv1 false HF.out (by rw [hx]; simp [hσ]))
        clear hx hjl e1 e2 e3 e4 e5 e6 HX hσ hm
        go_wp2
        go_ret
        exact FIN.out

end Go.Proofs.YtegokdhmpopggaaDoor
