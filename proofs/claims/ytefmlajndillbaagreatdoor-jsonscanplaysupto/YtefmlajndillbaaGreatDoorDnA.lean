/- ref16 on the document's scanner: literal, word, closes -/
import Derived.Test.YtefmlajndillbaaGreatDoorDcI
import Derived.Test.YtefmlajndillbaaGreatDoorDnM
import Derived.Test.YtefmlajndillbaaGreatDoorJsP
namespace Go.Proofs.YtefmlajndillbaaGreatDoor
open Go.RowKit
set_option linter.unusedVariables false

/-- the facts of the other cells -/
structure DG (w : World) (p : Nat) (d : Dc) : Prop where
  c0 : w.cell? ⟨p, 0, none⟩ = some (.bool true)
  c1 : w.cell? ⟨p, 1, none⟩ = some (.int .i64 d.mode)
  c2 : w.cell? ⟨p, 2, none⟩ = some (.string (strOfNums d.opn))
  c10 : w.cell? ⟨p, 10, none⟩ = some (.bool d.keys)
  c11 : w.cell? ⟨p, 11, none⟩ = some (.string (strOfNums d.rest))
  c12 : w.cell? ⟨p, 12, none⟩ = some (.int .i64 d.size)
  c13 : w.cell? ⟨p, 13, none⟩ = some (.int .i64 d.code)
  c14 : w.cell? ⟨p, 14, none⟩ = some (.int .i64 d.at_)
  c15 : w.cell? ⟨p, 15, none⟩ = some (.string ⟨#[]⟩)
theorem dg_of {w : World} {p : Nat} {tv : Value} {d : Dc} (h : w.heap[p]? = some (.cells (dcC tv d) 41 (0, 0))) : DG w p d :=
  ⟨Lib.cell_of_heap h 0, Lib.cell_of_heap h 1, Lib.cell_of_heap h 2, Lib.cell_of_heap h 10, Lib.cell_of_heap h 11, Lib.cell_of_heap h 12, Lib.cell_of_heap h 13, Lib.cell_of_heap h 14, Lib.cell_of_heap h 15⟩
def dEq (d : Dc) (n : Dn) : Prop := d.mode = (n.mode : Int) ∧ d.opn = n.opn ∧ d.keys = n.keys ∧ d.rest = n.rest
/-- what a call outside of literals leaves -/
def DOut (w : World) (B p : Nat) (tv : Value) (d : Dc) (v : Value) (n : Dn) (lit : Bool) (e : Ending) (w' : World) : Prop :=
  ∃ tv' es' d', e = .returned v ∧ DcS w' B p tv' es' d' ∧ Fr p tv tv' w w' ∧ dEq d' n ∧ d'.size = d.size ∧ d'.code = d.code ∧ d'.at_ = d.at_ ∧ (lit = true → es' = [] ∧ d'.lm = 1 ∧ d'.h = 0)
theorem dlit_put {w : World} {B p : Nat} {tv : Value} {es : List Int} {d : Dc} (H : DcS w B p tv es d) :
    DcS ((((((((w.setCell ⟨p, 3, none⟩ (.int .i64 1)).setCell ⟨p, 4, none⟩ (.int .i64 0)).setCell ⟨p, 5, none⟩ (.int .i64 0)).setCell ⟨p, 6, none⟩ (.int .i64 0)).setCell ⟨p, 7, none⟩ (.int .u8 0)).setCell ⟨p, 8, none⟩ (.int .u8 0)).setCell ⟨p, 9, none⟩ (.slice none 0 0))) B p (.slice none 0 0) [] { d with lm := 1, l := 0, n := 0, h := 0, lo := 0, mo := 0 } := by
  have h1 := (((((H.lm 1).l 0).n 0).h 0).lo 0).mo 0
  exact dc_put (es := []) h1.blk h1.le (World.ownsRow_nil _ _ _ _)
theorem Fr.none {p : Nat} {o1 o2 : Value} {w w' : World} (h : Fr p o1 o2 w w') : Fr p o1 (.slice none 0 0) w w' := ⟨h.os, h.tape, h.output, h.size, h.block, Or.inr (fun k e => by simp [Value.ownBlock] at e)⟩
set_option maxRecDepth 100000 in
theorem dliteral {w : World} {B p : Nat} {tv : Value} {es : List Int} {d : Dc} {n : Dn} {k : Bool} (H : DcS w B p tv es d) (hn : dEq d n) :
    Calls Tryz.prog 66 #[.pointer (some ⟨p, 0, none⟩), .bool k] w (DOut w B p tv d (.int .i64 0) { n with keys := k, mode := 6 } true) := by
  have HS := hide H
  have HN := hide hn
  have f1 := H.frz 1
  have f10 := H.frz 10
  have c1 := (dg_of H.blk).c1
  have c10 := (dg_of H.blk).c10
  obtain ⟨c3, c4, c5, c6, c7, c8, c9, f3, f4, f5, f6, f7, f8, f9⟩ := df_of H.blk
  clear H hn
  go_enter Tryz.func66, Tryz.ntmps66
  go_wp2
  go_ret
  exact ⟨_, [], _, rfl, dlit_put ((HS.out.keys k).mode 6), ((((((((((Fr.refl _ _ _).setP _).setP _).setP _).setP _).setP _).setP _).setP _).setP _).setP _).none, ⟨rfl, HN.out.2.1, rfl, HN.out.2.2.2⟩, rfl, rfl, rfl, fun _ => ⟨rfl, rfl, rfl⟩⟩
set_option maxRecDepth 100000 in
theorem dword {w : World} {B p : Nat} {tv : Value} {es : List Int} {d : Dc} {n : Dn} {l : List Int} {s : ByteArray} (H : DcS w B p tv es d) (hn : dEq d n) (hs : s = strOfNums l) :
    Calls Tryz.prog 83 #[.pointer (some ⟨p, 0, none⟩), .string s] w (DOut w B p tv d (.int .i64 0) { n with mode := 7, rest := l } false) := by
  have HS := hide H
  have HN := hide hn
  have HE := hide hs
  have f1 := H.frz 1
  have f11 := H.frz 11
  have c1 := (dg_of H.blk).c1
  have c11 := (dg_of H.blk).c11
  clear H hn hs
  go_enter Tryz.func83, Tryz.ntmps83
  go_wp2
  go_ret
  have e := HE.out
  subst e
  exact ⟨_, es, _, rfl, (HS.out.mode 7).rest l, ((Fr.refl _ _ _).setP _).setP _, ⟨rfl, HN.out.2.1, HN.out.2.2.1, rfl⟩, rfl, rfl, rfl, nofun⟩
/-- the opening brackets: what the text says of them -/
structure Op2 (o : List Int) (s : ByteArray) : Prop where
  str : s = strOfNums o
  size : s.size = o.length
  byt : uByt o
theorem op2 (o : List Int) (h : uByt o) : Op2 o (strOfNums o) := ⟨rfl, strOfNums_size _, h⟩
set_option maxRecDepth 100000 in
set_option maxHeartbeats 4000000 in
theorem dcloses {w : World} {B p : Nat} {tv : Value} {es : List Int} {d : Dc} {n : Dn} {c : Int} (H : DcS w B p tv es d) (hn : dEq d n) (hu : uByt d.opn) (hl : d.opn.length ≤ 128) :
    Calls Tryz.prog 65 #[.pointer (some ⟨p, 0, none⟩), .int .u8 c] w (DOut w B p tv d (.bool (dCl c n.opn)) (if dCl c n.opn then { n with opn := n.opn.dropLast, mode := 5 } else n) false) := by
  have HS := hide H
  have HN := hide hn
  have f1 := H.frz 1
  have f2 := H.frz 2
  have c1 := (dg_of H.blk).c1
  have c2 := (dg_of H.blk).c2
  obtain ⟨n1, n2, n3, n4⟩ := hn
  rw [← n2]
  have HNO := hide n2
  clear n1 n2 n3 n4 H
  by_cases he : d.opn = []
  · have e1 : dCl c d.opn = false := by rw [he]; rfl
    have e2 : strOfNums d.opn = ⟨#[]⟩ := by rw [he]; rfl
    rw [e2] at c2
    rw [e1, if_neg (by simp)]
    clear e1 e2 hu hl
    go_enter Tryz.func65, Tryz.ntmps65
    go_wp2
    go_ret
    exact ⟨_, es, _, rfl, HS.out, Fr.refl _ _ _, HN.out, rfl, rfl, rfl, nofun⟩
  · obtain ⟨o, x, ho⟩ : ∃ o x, d.opn = o ++ [x] := ⟨d.opn.dropLast, d.opn.getLast he, (List.dropLast_concat_getLast he).symm⟩
    obtain ⟨sw, hsw⟩ : ∃ sw, strOfNums d.opn = sw := ⟨_, rfl⟩
    rw [hsw] at c2
    have hsz : sw.size = o.length + 1 := by rw [← hsw, strOfNums_size, ho]; simp
    obtain ⟨K, hK⟩ : ∃ K, o.length = K := ⟨_, rfl⟩
    have hKl : K ≤ 127 := by rw [ho] at hl; simp at hl; omega
    rw [hK] at hsz
    have h0 : K < sw.size := by omega
    have hix : ((sw[K]'h0).toNat : Int) = x := by
      subst hsw
      rw [utxt_at h0 hu, ho, ← hK]
      simp [Nt.lb]
    have hcut : sw.extract 0 K = strOfNums o := by
      rw [← hsw, utxt_cut, ho, ← hK]; simp
    have hdl : d.opn.dropLast = o := by rw [ho]; simp
    have hgl : d.opn.getLastD 0 = x := by rw [ho]; simp
    have hem : d.opn.isEmpty = false := by rw [ho]; simp
    have hkk : ((K : Int) + 1 - 1) = K := by omega
    have hk0 : (((K : Int) + 1) == 0) = false := by simp; omega
    have HW := hide hsw
    have HP := hide (HS.out.opn o)
    by_cases k1 : x = 91 ∧ c ≠ 93
    · have e1 : dCl c d.opn = false := by unfold dCl; rw [hgl, hem, k1.1]; simp [k1.2]
      rw [e1, if_neg (by simp)]
      obtain ⟨rfl, k2⟩ := k1
      have q5 : (c != 93) = true := by simpa using k2
      clear e1 hu hl ho hdl hgl hem hsw hcut
      go_enter Tryz.func65, Tryz.ntmps65
      go_wp2
      go_ret
      exact ⟨_, es, _, rfl, HS.out, Fr.refl _ _ _, HN.out, rfl, rfl, rfl, nofun⟩
    · by_cases k2 : x = 123 ∧ c ≠ 125
      · have e1 : dCl c d.opn = false := by unfold dCl; rw [hgl, hem, k2.1]; simp [k2.2]
        rw [e1, if_neg (by simp)]
        obtain ⟨rfl, k2⟩ := k2
        have q5 : (c != 125) = true := by simpa using k2
        clear e1 hu hl ho hdl hgl hem hsw hcut k1
        go_enter Tryz.func65, Tryz.ntmps65
        go_wp2
        go_ret
        exact ⟨_, es, _, rfl, HS.out, Fr.refl _ _ _, HN.out, rfl, rfl, rfl, nofun⟩
      · have e1 : dCl c d.opn = true := by
          simp only [dCl, hgl, hem]
          by_cases q1 : x = 91
          · have : c = 93 := by
              by_cases q : c = 93
              · exact q
              · exact absurd ⟨q1, q⟩ k1
            subst this; subst q1; rfl
          · by_cases q2 : x = 123
            · have : c = 125 := by
                by_cases q : c = 125
                · exact q
                · exact absurd ⟨q2, q⟩ k2
              subst this; subst q2; rfl
            · simp [q1, q2]
        rw [e1, if_pos rfl, hdl]
        clear e1 hu hl ho hdl hgl hem hsw
        generalize strOfNums o = so at hcut HP
        by_cases q1 : x = 91
        · have q3 : c = 93 := by
            by_cases q : c = 93
            · exact q
            · exact absurd ⟨q1, q⟩ k1
          subst q3; subst q1
          clear k1 k2
          go_enter Tryz.func65, Tryz.ntmps65
          go_wp2
          go_ret
          exact ⟨_, es, _, rfl, HP.out.mode 5, ((Fr.refl _ _ _).setP _).setP _, ⟨rfl, rfl, HN.out.2.2.1, HN.out.2.2.2⟩, rfl, rfl, rfl, nofun⟩
        · by_cases q2 : x = 123
          · have q3 : c = 125 := by
              by_cases q : c = 125
              · exact q
              · exact absurd ⟨q2, q⟩ k2
            subst q3; subst q2
            clear k1 k2 q1
            go_enter Tryz.func65, Tryz.ntmps65
            go_wp2
            go_ret
            exact ⟨_, es, _, rfl, HP.out.mode 5, ((Fr.refl _ _ _).setP _).setP _, ⟨rfl, rfl, HN.out.2.2.1, HN.out.2.2.2⟩, rfl, rfl, rfl, nofun⟩
          · clear k1 k2
            go_enter Tryz.func65, Tryz.ntmps65
            go_wp2
            go_ret
            exact ⟨_, es, _, rfl, HP.out.mode 5, ((Fr.refl _ _ _).setP _).setP _, ⟨rfl, rfl, HN.out.2.2.1, HN.out.2.2.2⟩, rfl, rfl, rfl, nofun⟩

end Go.Proofs.YtefmlajndillbaaGreatDoor
