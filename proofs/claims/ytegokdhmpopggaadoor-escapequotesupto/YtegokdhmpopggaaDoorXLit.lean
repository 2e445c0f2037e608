/- escape: piece, literal -/
import Derived.Test.YtegokdhmpopggaaDoorXPiece
namespace Go.Proofs.YtegokdhmpopggaaDoor
open Go.RowKit
set_option linter.unusedVariables false

theorem XPiece.from {B b k j : Nat} {s : ByteArray} {ls es : List Int} {σ τ : XS} {w0 w : World} {ok : Bool} (ho : XOn ls k σ es j τ es) (h : XPiece B b s ls τ j es w0 w ok) : XPiece B b s ls σ k es w0 w ok := by
  obtain ⟨i, fs, h1, h2, h3, h4⟩ := h
  refine ⟨i, fs, h1, h2, h3, ?_⟩
  rcases h4 with ⟨rfl, h5, h6, h7⟩ | ⟨rfl, h5⟩
  · exact .inl ⟨rfl, by have := ho.1; omega, h6, ho.trans h7⟩
  · exact .inr ⟨rfl, ho.bad h5⟩
theorem RK.start {B b k : Nat} {s : ByteArray} {ls es : List Int} {w0 w : World} (h : RK B b s ls k es w0 w) : RK B b s ls k es w w := ⟨h.rd, h.byt, h.str, h.len, h.le, Below.refl _ _, Oth.refl _ _⟩
theorem XPiece.bel {B b k : Nat} {s : ByteArray} {ls es : List Int} {σ : XS} {w0 w1 w : World} {ok : Bool} (hb : Below B w0 w1) (h : XPiece B b s ls σ k es w1 w ok) : XPiece B b s ls σ k es w0 w ok := by
  obtain ⟨i, fs, h1, h2, h3, h4⟩ := h
  exact ⟨i, fs, h1, h2, hb.trans h3, h4⟩

set_option maxRecDepth 100000 in
set_option maxHeartbeats 4000000 in
theorem piece_rk {B b k : Nat} {s : ByteArray} {ls es : List Int} {w0 w : World} (h : RK B b s ls k es w0 w) (hes : es.length ≤ k) (ht : Tab w0) (hG : 12 < B) (hq : xTk ls k [(34, 34)] = false) :
    Calls Tryd.prog 39 #[.pointer (some ⟨b, 0, none⟩)] w fun e w' => ∃ ok, e = .returned (.bool ok) ∧ XPiece B b s ls .inn k es w0 w' ok := by
  have H := hide h
  have HT := hide ht
  have HQ := hide hq
  clear h ht hq
  cases a0 : xTk ls k [(92, 92)] with
  | false =>
    replace a0 := hide a0
    go_enter Tryd.func39, Tryd.ntmps39
    go_wp2_with fail
    refine (only_rk H.out).mono ?_
    rintro e w1 ⟨rfl, h2⟩; replace H := hide h2; clear h2
    go_wp2_with fail
    refine (tk1n H.out a0.out).mono ?_
    rintro e w2 ⟨rfl, h2⟩; replace H := hide h2; clear h2
    go_wp2_with fail
    refine (enc_rk H.out hes (fun hl => ⟨xTk_one_no HQ.out hl, xTk_one_no a0.out hl⟩)).mono ?_
    rintro e w3 ⟨ok, rfl, hp⟩; replace hp := hide hp
    go_wp2
    go_ret
    exact ⟨_, rfl, hp.out⟩
  | true =>
    have HO := hide (show XOn ls k .inn es (k + 1) .stroke es from XOn.step0 (xTk_lt a0) (by rw [(xTk_one a0).2]; rfl) (by simp))
    cases a1 : xTk ls (k + 1) [(117, 117)] with
    | true =>
      have HO2 := hide (HO.out.trans (XOn.step0 (t := es) (xTk_lt a1) (by rw [(xTk_one a1).2]; rfl) (by simp) : XOn ls (k + 1) .stroke es (k + 1 + 1) (.digs 4 0 0) es))
      replace a0 := hide a0; replace a1 := hide a1
      go_enter Tryd.func39, Tryd.ntmps39
      go_wp2_with fail
      refine (only_rk H.out).mono ?_
      rintro e w1 ⟨rfl, h2⟩; replace H := hide h2; clear h2
      go_wp2_with fail
      refine (tk1y H.out a0.out).mono ?_
      rintro e w2 ⟨rfl, h2⟩; replace H := hide h2; clear h2
      go_wp2_with fail
      refine (only_rk H.out).mono ?_
      rintro e w3 ⟨rfl, h2⟩; replace H := hide h2; clear h2
      go_wp2_with fail
      refine (tk1y H.out a1.out).mono ?_
      rintro e w4 ⟨rfl, h2⟩; replace H := hide h2; clear h2
      go_wp2_with fail
      refine (units_rk H.out (by omega)).mono ?_
      rintro e w5 ⟨ok, rfl, hp⟩; replace hp := hide (XPiece.from HO2.out hp)
      go_wp2
      go_ret
      exact ⟨_, rfl, hp.out⟩
    | false =>
      replace a0 := hide a0; replace a1 := hide a1
      go_enter Tryd.func39, Tryd.ntmps39
      go_wp2_with fail
      refine (only_rk H.out).mono ?_
      rintro e w1 ⟨rfl, h2⟩; replace H := hide h2; clear h2
      go_wp2_with fail
      refine (tk1y H.out a0.out).mono ?_
      rintro e w2 ⟨rfl, h2⟩; replace H := hide h2; clear h2
      go_wp2_with fail
      refine (only_rk H.out).mono ?_
      rintro e w3 ⟨rfl, h2⟩; replace H := hide h2; clear h2
      go_wp2_with fail
      refine (tk1n H.out a1.out).mono ?_
      rintro e w4 ⟨rfl, h2⟩; replace H := hide h2; clear h2
      have HT4 := hide (HT.out.below hG H.out.bel)
      go_wp2_with fail
      refine (letter_rk H.out (by omega) HT4.out hG (fun hl => xTk_one_no a1.out hl)).mono ?_
      rintro e w5 ⟨ok, rfl, hp⟩; replace hp := hide (XPiece.from HO.out hp)
      go_wp2
      go_ret
      exact ⟨_, rfl, hp.out⟩

/-- what literal answers -/
def XLitIs (B b : Nat) (s : ByteArray) (ls : List Int) (k : Nat) (w0 w : World) (ok : Bool) : Prop :=
  ∃ j fs, Rdr B b s j fs w ∧ j ≤ ls.length ∧ Below B w0 w ∧ xRun .start (ls.drop k) [] k = (if ok = true then .ok fs j else .bad j)

set_option maxRecDepth 100000 in
set_option maxHeartbeats 4000000 in
theorem literal_rk {B b k : Nat} {s : ByteArray} {ls : List Int} {w : World} (h : RK B b s ls k [] w w) (ht : Tab w) (hG : 12 < B) :
    Calls Tryd.prog 25 #[.pointer (some ⟨b, 0, none⟩)] w fun e w' => ∃ ok, e = .returned (.bool ok) ∧ XLitIs B b s ls k w w' ok := by
  have H := hide h
  have HT := hide ht
  clear h ht
  cases a0 : xTk ls k [(34, 34)] with
  | false =>
    have HX := hide (show xRun .start (ls.drop k) [] k = .bad k from XBad.run (XBad.stop H.out.le (fun hl => by show (if _ then _ else _) = _; rw [if_neg (xTk_one_no a0 hl)])))
    replace a0 := hide a0
    go_enter Tryd.func25, Tryd.ntmps25
    go_wp2_with fail
    refine (only_rk H.out).mono ?_
    rintro e w1 ⟨rfl, h2⟩; replace H := hide h2; clear h2
    go_wp2_with fail
    refine (tk1n H.out a0.out).mono ?_
    rintro e w2 ⟨rfl, h2⟩; replace H := hide h2; clear h2
    go_wp2
    go_ret
    exact ⟨_, rfl, k, [], H.out.rd, H.out.le, H.out.bel, HX.out⟩
  | true =>
    have HO := hide (show XOn ls k .start [] (k + 1) .inn [] from XOn.step0 (xTk_lt a0) (by rw [(xTk_one a0).2]; rfl) (by simp))
    have hk1 := xTk_lt a0
    replace a0 := hide a0
    go_enter Tryd.func25, Tryd.ntmps25
    go_wp2_with fail
    refine (only_rk H.out).mono ?_
    rintro e w1 ⟨rfl, h2⟩; replace H := hide h2; clear h2
    go_wp2_with fail
    refine (tk1y H.out a0.out).mono ?_
    rintro e w2 ⟨rfl, h2⟩; replace H := hide h2; clear h2
    go_wp2
    go_loopg [] (ls.length - (k + 1)) (fun m wr => ∃ (j : Nat) (fs : List Int), j ≤ ls.length ∧ m = ls.length - j ∧ Hid (XOn ls k .start [] j .inn fs ∧ fs.length ≤ j ∧ Rdr B b s j fs wr ∧ Below B w wr))
    case atStart => exact ⟨k + 1, [], hk1, rfl, hide ⟨HO.out, by simp, H.out.rd, H.out.bel⟩⟩
    case round =>
      obtain ⟨j, fs, hj, hm, HJ⟩ := hrel
      have HR := hide (show RK B b s ls j fs wr wr from ⟨HJ.out.2.2.1, H.out.byt, H.out.str, H.out.len, hj, Below.refl _ _, Oth.refl _ _⟩)
      have HTr := hide (HT.out.below hG HJ.out.2.2.2)
      cases a1 : xTk ls j [(34, 34)] with
      | true =>
        have HX := hide (show xRun .start (ls.drop k) [] k = .ok fs (j + 1) from by
          rw [HJ.out.1.run, udrop_lb (xTk_lt a1), (xTk_one a1).2, xRun_fin xIn_quote, List.append_nil])
        have hj1 := xTk_lt a1
        replace a1 := hide a1
        go_wp2_with fail
        refine (only_rk HR.out).mono ?_
        rintro e w3 ⟨rfl, h2⟩; replace HR := hide h2; clear h2
        go_wp2_with fail
        refine (tk1y HR.out a1.out).mono ?_
        rintro e w4 ⟨rfl, h2⟩; replace HR := hide h2; clear h2
        go_wp2
        go_ret
        exact ⟨_, rfl, j + 1, fs, HR.out.rd, hj1, HJ.out.2.2.2.trans HR.out.bel, HX.out⟩
      | false =>
        replace a1 := hide a1
        go_wp2_with fail
        refine (only_rk HR.out).mono ?_
        rintro e w3 ⟨rfl, h2⟩; replace HR := hide h2; clear h2
        go_wp2_with fail
        refine (tk1n HR.out a1.out).mono ?_
        rintro e w4 ⟨rfl, h2⟩; replace HR := hide h2; clear h2
        go_wp2_with fail
        refine (piece_rk HR.out HJ.out.2.1 HTr.out hG a1.out).mono ?_
        rintro e w5 ⟨ok, rfl, i, gs, h1, h2, h3, h4⟩
        rcases h4 with ⟨rfl, h5, h6, h7⟩ | ⟨rfl, h5⟩
        · have HN := hide (show XOn ls k .start [] i .inn gs ∧ gs.length ≤ i ∧ Rdr B b s i gs w5 ∧ Below B w w5 from ⟨HJ.out.1.trans h7, h6, h1, HJ.out.2.2.2.trans h3⟩)
          clear h1 h3 h6 h7
          go_wp2
          go_roundg (ls.length - i)
          case measure => omega
          case rel => exact ⟨i, gs, h2, rfl, HN⟩
        · have HX := hide (show XLitIs B b s ls k w w5 false from ⟨i, gs, h1, h2, HJ.out.2.2.2.trans h3, (HJ.out.1.bad h5).run⟩)
          clear h1 h3 h5
          go_wp2
          go_ret
          exact ⟨_, rfl, HX.out⟩

end Go.Proofs.YtegokdhmpopggaaDoor
