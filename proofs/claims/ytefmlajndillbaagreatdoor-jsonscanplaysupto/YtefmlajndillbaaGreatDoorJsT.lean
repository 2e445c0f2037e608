/- layer 16: a step by its number; take -/
import Derived.Test.YtefmlajndillbaaGreatDoorJsL
namespace Go.Proofs.YtefmlajndillbaaGreatDoor
open Go.RowKit
set_option linter.unusedVariables false

theorem jstep {w : World} {a : Nat → Addr} {B p : Nat} {nx ov : Value} {sz : Int} {t : St} {b : Int} {m : Md} (h : ScS w a B p nx sz ov t) (hG : Good m t) (hS : Snt w a) (hB : B ≤ w.heap.size) (h0 : 0 ≤ b) (h1 : b < 256) :
    Calls Tryz.prog (fnM m) #[.pointer (some ⟨p, 0, none⟩), .int .u8 b] w (Outs w a B p nx sz ov (stepB m b t)) := by
  have hc := hG.core
  cases m with
  | value => exact jvalue h hS hc.len hB
  | firstElement => exact jfirstElement h (hG.op (Or.inl rfl)) hS hc.len hB
  | firstKey => exact jfirstKey h (hG.op (Or.inr rfl))
  | key => exact jkey h
  | colon => exact jcolon h
  | behind => exact jbehind h
  | letter => exact jletter h (hG.wd rfl) hc.wb hc.wl
  | minus => exact jminus h
  | wholePart => exact jwhole h
  | digits => exact jdigits h
  | point => exact jpoint h
  | fraction => exact jfraction h
  | exponent => exact jexponent h
  | sign => exact jsign h
  | power => exact jpower h
  | piece => exact jpiece h h0 h1 hc.bg hc.bb
  | encoding => exact jencoding h h0 h1 hc.bg hc.bb
  | backslash => exact jbackslash h h0 h1
  | unit => exact junit h
  | behindD => exact jbehindD h
  | digitsLeft => exact jdigitsLeft h ⟨by have := hc.lf; omega, hc.lf.2⟩
  | secondHalf => exact jsecondHalf h
  | secondU => exact jsecondU h
  | secondD => exact jsecondD h
  | secondSpan => exact jsecondSpan h
theorem eq_nil (w : World) : (binOp .eql 43 .nilFunc .nilFunc).run Tryz.prog w = .ok (.bool true) w := by kernel_rfl
theorem eq_fn (f : Fn) (x y : Array Value) (w : World) : (binOp .eql 43 (.func f x y) .nilFunc).run Tryz.prog w = .ok (.bool false) w := by kernel_rfl
theorem enter_md (m : Md) (args : Array Value) (w : World) : (callFunc (fnM m) args).run Tryz.prog w = .ok (.enter (fnM m) args) w := by
  cases m <;> simp only [fnM] <;> kernel_rfl
/-- the scanner s lies at p -/
structure ScP (w : World) (a : Nat → Addr) (B p : Nat) (ov : Value) (s : Sc) : Prop where
  sc : ScS w a B p (mdV p s.md) s.size ov s.st
  good : GoodS s
theorem ScP.below {w w' : World} {a : Nat → Addr} {B p : Nat} {ov : Value} {s : Sc} (h : ScP w a B p ov s) (hb : Below w.heap.size w w') : ScP w' a B p ov s := ⟨h.sc.below hb, h.good⟩
/-- the sentinels lie below B -/
def SntB (B : Nat) (w : World) (a : Nat → Addr) : Prop := ∀ w', Below B w w' → Snt w' a
theorem SntB.here {B : Nat} {w : World} {a : Nat → Addr} (h : SntB B w a) : Snt w a := h w (Below.refl _ _)
theorem SntB.below {B : Nat} {w w' : World} {a : Nat → Addr} (h : SntB B w a) (hb : Below B w w') : SntB B w' a := fun w'' h'' => h w'' (hb.trans h'')
theorem sntB_of {w : World} {a : Nat → Addr} (h : Snt w a) : SntB w.heap.size w a := fun w' hb => h.below hb
theorem sntB_mono {B B' : Nat} {w : World} {a : Nat → Addr} (h : SntB B w a) (hB : B ≤ B') : SntB B' w a := fun w' hb => h w' (hb.mono hB)
theorem ScS.toBelow {w w' : World} {a : Nat → Addr} {B p : Nat} {nx ov ov' : Value} {sz : Int} {t : St} (h : ScS w a B p nx sz ov t) (f : Fr p ov ov' w w') : Below B w w' :=
  f.below h.le (Nat.le_of_lt (Nat.lt_of_le_of_lt h.le h.lt)) fun k hk => (h.ownLt k hk).1
set_option maxRecDepth 100000 in
theorem jtake {w : World} {a : Nat → Addr} {B p : Nat} {ov : Value} {s : Sc} {b : Int} (h : ScP w a B p ov s) (hbad : s.st.bad = 0) (hS : SntB B w a) (hsz : s.size < 9223372036854775807) (h0 : 0 ≤ b) (h1 : b < 256) :
    Calls Tryz.prog 32 #[.pointer (some ⟨p, 0, none⟩), .int .u8 b] w fun e w' => e = .returned (.tuple #[]) ∧ ∃ ov', ScP w' a B p ov' (takeB b s) ∧ Fr p ov ov' w w' := by
  have hsc := h.sc
  have hG := good_false (h.good.ok hbad)
  have hgr := gr_step hG b h0 h1
  have hg := good_take h.good hbad b h0 h1
  have h2 := hsc.setEnds false
  have hb2 : Below B w (w.setCell ⟨p, 4, none⟩ (.bool false)) := (Below.refl _ _).setCell (p := ⟨p, 4, none⟩) hsc.le _
  have HS := hide (hS.below hb2)
  have CS := hide (jstep (b := b) h2 hG HS.out.here (Nat.le_trans hsc.le (Nat.le_of_lt h2.lt)) h0 h1)
  have c4 := hsc.cell 4
  have f4 := hsc.frz 4
  have c1 := h2.cell 1
  simp only [scC, mdV] at c4 c1
  have FR0 := hide ((Fr.refl p ov w).setP (i := 4) (.bool false))
  have HG := hide hg
  have e0 : takeB b s = (match stepB s.md b { s.st with ends := false } with
    | (none, t) => ⟨s.md, s.size, { t with bad := if t.bad = 0 then 3 else t.bad }⟩
    | (some m, t) => ⟨m, s.size + 1, t⟩) := rfl
  have HE := hide e0
  have HH2 := hide h2
  clear e0 hg hb2 hS h hsc h2
  have hent := enter_md s.md #[.pointer (some ⟨p, 0, none⟩), .int .u8 b] (w.setCell ⟨p, 4, none⟩ (.bool false))
  obtain ⟨fm, hfm⟩ : ∃ fm, fnM s.md = fm := ⟨_, rfl⟩
  rw [hfm] at c1 CS hent
  generalize hr : stepB s.md b { s.st with ends := false } = r at CS HE hgr
  obtain ⟨rm, rt⟩ := r
  have hszi : ((s.size : Int)) + 1 ≤ 9223372036854775807 := by omega
  have hszj : (0 : Int) ≤ (s.size : Int) := by omega
  cases rm with
  | none =>
    simp only at HE
    rw [HE.out] at HG ⊢
    rcases hgr with e | e
    · subst e
      clear hG hr hfm HE hszi hszj hsz
      go_enter Tryz.func32, Tryz.ntmps32
      go_wp2_with fail
      refine CS.out.mono ?_
      rintro e w1 ⟨ov1, rfl, h3, f3⟩
      have cI := (HS.out.below (HH2.out.toBelow f3)).here.cell 2 (by omega)
      simp only [sG, List.getD_cons_zero, List.getD_cons_succ] at cI
      have c5 := h3.cell 5
      have f5 := h3.frz 5
      simp only [scC, erV, hbad, if_true] at c5
      have H3 := hide (h3.setBad 3)
      have F3 := hide (FR0.out.trans f3)
      clear h3 f3 CS c1 c4 f4 HH2 FR0 hent
      simp only [rsV]
      have qn := eq_nil w1
      go_wp2
      refine bodyPost_ret (results_none rfl _ _ _) rfl ?_
      exact ⟨rfl, ov1, ⟨H3.out, by have hq := HG.out; rw [if_pos hbad] at hq; exact hq⟩, F3.out.setP _⟩
    · subst e
      clear hG hr hfm HE hszi hszj hsz
      go_enter Tryz.func32, Tryz.ntmps32
      go_wp2_with fail
      refine CS.out.mono ?_
      rintro e w1 ⟨ov1, rfl, h3, f3⟩
      have c5 := h3.cell 5
      simp only [scC, erV, if_neg (show ¬ (5 : Nat) = 0 by omega)] at c5
      have H3 := hide h3
      have F3 := hide (FR0.out.trans f3)
      clear h3 f3 CS c1 c4 f4 HH2 FR0 hent
      simp only [rsV]
      have qn := eq_nil w1
      go_wp2
      refine bodyPost_ret (results_none rfl _ _ _) rfl ?_
      exact ⟨rfl, ov1, ⟨H3.out, HG.out⟩, F3.out⟩
  | some m =>
    simp only at HE
    rw [HE.out] at HG ⊢
    clear hG hr hfm HE hgr
    go_enter Tryz.func32, Tryz.ntmps32
    go_wp2_with fail
    refine CS.out.mono ?_
    rintro e w1 ⟨ov1, rfl, h3, f3⟩
    have cn := h3.cell 1
    have fn := h3.frz 1
    have c2 := h3.cell 2
    have f2 := h3.frz 2
    simp only [scC] at cn c2
    have H3 := hide ((h3.setNext (mdV p m)).setSize ((s.size : Int) + 1))
    have F3 := hide (FR0.out.trans f3)
    clear h3 f3 CS c1 c4 f4 HH2 FR0 hent
    simp only [rsV, mdV]
    simp only [mdV] at H3
    obtain ⟨fk, hfk⟩ : ∃ fk, fnM m = fk := ⟨_, rfl⟩
    rw [hfk] at H3 ⊢
    have qn := eq_fn (.func fk) #[.pointer (some ⟨p, 0, none⟩)] #[] w1
    go_wp2
    go_end0
    refine ⟨rfl, ov1, ⟨?_, HG.out⟩, (F3.out.setP _).setP _⟩
    show ScS _ a B p (.func (.func (fnM m)) _ _) ((s.size + 1 : Nat) : Int) ov1 rt
    rw [hfk]
    exact H3.out

end Go.Proofs.YtefmlajndillbaaGreatDoor
