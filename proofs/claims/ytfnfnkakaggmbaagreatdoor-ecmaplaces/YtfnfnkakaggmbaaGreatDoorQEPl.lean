/- EcmaPlaces: the first byte with which no number goes on; the walk -/
import Derived.Test.YtfnfnkakaggmbaaGreatDoorQ29
namespace Go.Proofs.YtfnfnkakaggmbaaGreatDoor
open Go.RowKit
set_option linter.unusedVariables false

/-- the place behind a text, if all of it is taken -/
def sgo : Nat → List Int → Option Nat
  | p, [] => some p
  | p, c :: r => if nx p c = 9 then none else sgo (nx p c) r
theorem sgo_sc : ∀ {A B : List Int} {k p q : Nat}, sgo p A = some q → scG (A ++ B) k p = scG B (k + A.length) q
  | [], B, k, p, q, h => by
    simp only [sgo, Option.some.injEq] at h
    subst h
    rfl
  | c :: r, B, k, p, q, h => by
    rw [sgo] at h
    by_cases hn : nx p c = 9
    · rw [if_pos hn] at h; cases h
    · rw [if_neg hn] at h
      rw [List.cons_append, scG, if_neg hn, sgo_sc h, List.length_cons]
      congr 1; omega
theorem sc_place : ∀ {es : List Int} {k p : Nat}, (scG es k p).2 = false → ∃ n q, (scG es k p).1 = k + n ∧ n ≤ es.length ∧ sgo p (es.take n) = some q ∧ ((n = es.length ∧ fin8 q = false) ∨ (n < es.length ∧ nx q (Nt.lb es n) = 9))
  | [], k, p, h => ⟨0, p, rfl, Nat.le_refl _, rfl, Or.inl ⟨rfl, h⟩⟩
  | c :: r, k, p, h => by
    rw [scG] at h ⊢
    by_cases hn : nx p c = 9
    · rw [if_pos hn]
      exact ⟨0, p, rfl, Nat.zero_le _, rfl, Or.inr ⟨by simp, by rw [lb_hd]; exact hn⟩⟩
    · rw [if_neg hn] at h ⊢
      obtain ⟨n, q, h1, h2, h3, h4⟩ := sc_place h
      refine ⟨n + 1, q, by rw [h1]; omega, by rw [List.length_cons]; omega, ?_, ?_⟩
      · rw [List.take_succ_cons, sgo, if_neg hn]; exact h3
      · rcases h4 with ⟨h4, h5⟩ | ⟨h4, h5⟩
        · exact Or.inl ⟨by rw [List.length_cons]; omega, h5⟩
        · refine Or.inr ⟨by rw [List.length_cons]; omega, ?_⟩
          have : Nt.lb (c :: r) (n + 1) = Nt.lb r n := by simp [Nt.lb]
          rw [this]; exact h5
theorem sgo_le : ∀ {es : List Int} {p q : Nat}, p ≤ 8 → sgo p es = some q → q ≤ 8
  | [], p, q, hp, h => by simp only [sgo, Option.some.injEq] at h; omega
  | c :: r, p, q, hp, h => by
    rw [sgo] at h
    by_cases hn : nx p c = 9
    · rw [if_pos hn] at h; cases h
    · rw [if_neg hn] at h
      refine sgo_le ?_ h
      have : nx p c ≤ 9 := by unfold nx; repeat' split
                              all_goals omega
      omega
/-- the place that Read tells, in plain words -/
structure Plc (es : List Int) (n : Nat) : Prop where
  le : n ≤ es.length
  /-- all ahead of it, or that and a 0, is a number -/
  one : scG (es.take n) 0 0 = (n, true) ∨ (scG (es.take n) 0 0 = (n, false) ∧ (scG (es.take n ++ [48]) 0 0).2 = true)
  /-- with the byte there, whatever comes behind, none goes on -/
  three : n < es.length → ∀ more, scG (es.take (n + 1) ++ more) 0 0 = (n, false)
theorem plc_of {es : List Int} (h : (scG es 0 0).2 = false) : Plc es (scG es 0 0).1 := by
  obtain ⟨n, q, h1, h2, h3, h4⟩ := sc_place h
  rw [h1, Nat.zero_add]
  have hq : q ≤ 8 := sgo_le (by omega) h3
  have hlen : (es.take n).length = n := by rw [List.length_take]; omega
  have e0 : scG (es.take n) 0 0 = (n, fin8 q) := by
    have := sgo_sc (B := []) (k := 0) h3
    rw [List.append_nil, hlen, Nat.zero_add] at this
    rw [this]; rfl
  refine ⟨h2, ?_, fun hl more => ?_⟩
  · rw [e0]
    cases hf : fin8 q with
    | true => exact Or.inl rfl
    | false =>
      refine Or.inr ⟨rfl, ?_⟩
      rw [sgo_sc h3]
      have hd : q = 0 ∨ q = 1 ∨ q = 5 ∨ q = 6 ∨ q = 7 := by
        unfold fin8 at hf
        simp at hf
        omega
      rcases hd with rfl | rfl | rfl | rfl | rfl <;> rfl
  · rcases h4 with ⟨h4, _⟩ | ⟨_, h5⟩
    · omega
    · have ht : es.take (n + 1) = es.take n ++ [Nt.lb es n] := by
        rw [List.take_succ_eq_append_getElem hl, lb_get hl]
      rw [ht, List.append_assoc, sgo_sc h3, hlen, Nat.zero_add, List.cons_append, scG, if_pos h5]
/-- what good tells of an error -/
def gd (es : List Int) : Bool := (scG es 0 0).2 || decide ((scG es 0 0).1 = 0)
/-- an error that Read told -/
def GdIs (w : World) (a : Nat → Addr) (v : Value) (g : Bool) : Prop := (v = .nilIface ∧ g = true) ∨ (∃ k, FltIs w a v k ∧ g = decide (k = 0))
theorem GdIs.below {w w' : World} {a : Nat → Addr} {v : Value} {g : Bool} (h : GdIs w a v g) (hb : Below w.heap.size w w') : GdIs w' a v g := by
  rcases h with h | ⟨k, h1, h2⟩
  · exact Or.inl h
  · exact Or.inr ⟨k, h1.below hb, h2⟩
theorem read_g {w : World} {a : Nat → Addr} {s : ByteArray} {es : List Int} (h : Ew w a) (hb : Byt es) (hs : s = strOfNums es) (hl : es.length ≤ 4294967000) :
    Calls Tryz.prog 15 #[.string s] w fun e w' => (∃ n v, e = .returned (.tuple #[.int .u64 n, v]) ∧ GdIs w' a v (gd es)) ∧ Below w.heap.size w w' := by
  refine (read_f h hb hs hl).mono ?_
  rintro e w' ⟨⟨v, k, rfl, hf, h1⟩ | ⟨h1, r, _, _, _, rfl⟩, hbw⟩
  · refine ⟨⟨_, _, rfl, Or.inr ⟨k, hf, ?_⟩⟩, hbw⟩
    unfold gd
    rcases h1 with ⟨h1, rfl⟩ | ⟨h1, rfl, _⟩
    · rw [h1]; rfl
    · rw [h1]; rfl
  · exact ⟨⟨_, _, rfl, Or.inl ⟨rfl, by unfold gd; rw [h1]; rfl⟩⟩, hbw⟩
set_option maxHeartbeats 4000000 in
theorem good_any {w : World} {a : Nat → Addr} (h : Ew w a) {v : Value} {g : Bool} (hg : GdIs w a v g) :
    Calls Tryz.prog 21 #[v] w fun e w' => e = .returned (.bool g) ∧ Below w.heap.size w w' := by
  rcases hg with ⟨rfl, rfl⟩ | ⟨k, hf, rfl⟩
  · go_enter Tryz.func21, Tryz.ntmps21
    go_wp2_with fail
    refine code_nil.mono ?_
    rintro e w1 ⟨rfl, rfl⟩
    go_wp2
    go_ret
    exact ⟨rfl, Below.refl _ _⟩
  · have HF := hide hf
    clear hf
    go_enter Tryz.func21, Tryz.ntmps21
    go_wp2_with fail
    refine (code_flt h.S HF.out).mono ?_
    rintro e w1 ⟨rfl, b1⟩
    have h1 := h.below b1
    have HF1 := hide (HF.out.below b1)
    clear HF
    go_wp2_with fail
    refine (isAt_flt h1.S h1.H HF1.out).mono ?_
    rintro e w2 ⟨rfl, b2⟩
    have K := below_trans b1 b2
    clear b1 b2 h1 HF1
    rw [show decide ((k : Int) = 0) = decide (k = 0) from decide_eq_decide.2 (by omega)]
    go_wp2
    go_ret
    exact ⟨rfl, K⟩

/-- an error's place against the two texts -/
theorem gd_two {es : List Int} {k : Nat} (h : ((scG es 0 0).2 = false ∧ k = (scG es 0 0).1) ∨ ((scG es 0 0).2 = true ∧ k = 0)) : k ≤ es.length ∧ (gd (es.take k) = true ∨ (gd (es.take k) = false ∧ gd (es.take k ++ [48]) = true)) := by
  rcases h with ⟨h1, rfl⟩ | ⟨h1, rfl⟩
  · have P := plc_of h1
    refine ⟨P.le, ?_⟩
    rcases P.one with h | ⟨h, h'⟩
    · left; unfold gd; rw [h]; rfl
    · cases hg : gd (es.take (scG es 0 0).1) with
      | true => left; rfl
      | false => right; exact ⟨rfl, by unfold gd; rw [h']; rfl⟩
  · exact ⟨Nat.zero_le _, Or.inl (by rw [List.take_zero]; rfl)⟩
set_option maxHeartbeats 16000000 in
set_option maxRecDepth 100000 in
theorem eplaces8_walk {w : World} {a : Nat → Addr} (E : Ew w a) {s more : ByteArray} {es ms : List Int} (hb : Byt es) (hs : s = strOfNums es) (hb' : Byt ms) (hs' : more = strOfNums ms) (hl : es.length ≤ 140737488355328) (hl' : ms.length ≤ 140737488355328) :
    Calls Tryz.prog 8 #[.string s, .string more] w fun e w' => e = .returned (.bool true) ∧ Below w.heap.size w w' := by
  have hsz : s.size = es.length := by rw [hs, strOfNums_size]
  have hsz' : more.size = ms.length := by rw [hs', strOfNums_size]
  have wr : IntKind.i64.wrap ((s.size : Int) + (more.size : Int)) = ((s.size + more.size : Nat) : Int) := by rw [IntKind.wrap_i64]; omega
  have wr2 : (s.size : Int) + (more.size : Int) = ((s.size + more.size : Nat) : Int) := by omega
  obtain ⟨M, hM⟩ : ∃ M, s.size + more.size = M := ⟨_, rfl⟩
  rw [hM] at wr wr2
  have HM := hide hM
  have m63 : M ≤ 9223372036854775807 := by omega
  by_cases hbig : 1048576 < M
  · have q1 : (1048576 : Int) < (M : Int) := by omega
    clear hs hb hsz hl hs' hb' hsz' hl' hM hbig
    go_enter Tryz.func8, Tryz.ntmps8
    go_wp2
    go_ret
    exact ⟨rfl, Below.refl _ _⟩
  have q1 : decide ((1048576 : Int) < (M : Int)) = false := decide_eq_false (by omega)
  have q2 : ¬ (1048576 : Int) < (M : Int) := by omega
  have HR := hide (fun (W : World) (h : Ew W a) => read_f h hb hs (by omega))
  have HB := hide (And.intro hb (And.intro hs hsz))
  have HB' := hide (And.intro hb' (And.intro hs' hsz'))
  have hsl : s.size ≤ 1048576 := by omega
  have hml : more.size ≤ 1048576 := by omega
  have hM2 : s.size + more.size ≤ 1048576 := by omega
  clear hb hs hl hsz hbig hb' hs' hl' hsz' hM
  go_enter Tryz.func8, Tryz.ntmps8
  go_wp2_with fail
  refine (HR.out _ E).mono ?_
  rintro e w1 ⟨⟨v, k, rfl, hf, hk⟩ | ⟨hok, r, r0, r1, hv, rfl⟩, b1⟩
  rotate_left
  · have E1 := E.below b1
    have K := b1
    clear hok hv b1 E
    go_wp2_with fail
    refine code_nil.mono ?_
    rintro e w2 ⟨rfl, rfl⟩
    go_wp2_with fail
    refine (lives8_any E1).mono ?_
    rintro e w3 ⟨rfl, b3⟩
    replace K := below_trans K b3
    clear b3 E1
    go_wp2
    go_ret
    exact ⟨rfl, K⟩
  have hk2 : ((scG es 0 0).2 = false ∧ k = (scG es 0 0).1) ∨ ((scG es 0 0).2 = true ∧ k = 0) := by
    rcases hk with h | ⟨h1, h2, _⟩
    · exact Or.inl h
    · exact Or.inr ⟨h1, h2⟩
  obtain ⟨kle, hgd⟩ := gd_two hk2
  have HK := hide hk2
  clear hk hk2
  have E1 := E.below b1
  have HF := hide hf
  have K := b1
  clear hf b1 E
  have kl : k ≤ s.size := by rw [HB.out.2.2]; exact kle
  have k0 : ¬ (k : Int) < 0 := by omega
  have k1 : ¬ (s.size : Int) < (k : Int) := by omega
  have k2 : (k : Int) ≤ (s.size : Int) := by omega
  clear kle
  have x1 : s.extract 0 k = strOfNums (es.take k) := by rw [HB.out.2.1, txt_cut, List.drop_zero]
  have z1 : (strOfNums (es.take k)).size ≤ 1048576 := by rw [strOfNums_size, List.length_take]; omega
  have HG1 := hide (fun (W : World) (h : Ew W a) => read_g h (s := strOfNums (es.take k)) (es := es.take k) (fun x hx => HB.out.1 x (List.mem_of_mem_take hx)) rfl (by rw [List.length_take]; omega))
  have HG2 := hide (fun (W : World) (h : Ew W a) => read_g h (s := strOfNums (es.take k ++ [48])) (es := es.take k ++ [48]) (fun x hx => by rcases List.mem_append.1 hx with hx | hx; exact HB.out.1 x (List.mem_of_mem_take hx); simp at hx; omega) rfl (by rw [List.length_append, List.length_take]; simp; omega))
  have x2 : strOfNums (es.take k) ++ (⟨#[48]⟩ : ByteArray) = strOfNums (es.take k ++ [48]) := txt_join _ [48]
  obtain ⟨t1, ht1⟩ : ∃ t, strOfNums (es.take k) = t := ⟨_, rfl⟩
  obtain ⟨t2, ht2⟩ : ∃ t, strOfNums (es.take k ++ [48]) = t := ⟨_, rfl⟩
  rw [ht1] at x1 x2 z1 HG1
  rw [ht2] at x2 HG2
  have z2 : ¬ 9223372036854775807 < t1.size + 1 := by omega
  clear ht1 ht2
  obtain ⟨g1, hg1⟩ : ∃ g, gd (es.take k) = g := ⟨_, rfl⟩
  obtain ⟨g2, hg2⟩ : ∃ g, gd (es.take k ++ [48]) = g := ⟨_, rfl⟩
  rw [hg1] at HG1 hgd
  rw [hg2] at HG2 hgd
  clear hg1 hg2
  go_wp2_with fail
  refine (code_flt E1.S HF.out).mono ?_
  rintro e w2 ⟨rfl, b2⟩
  have E2 := E1.below b2
  have HF2 := hide (HF.out.below b2)
  replace K := below_trans K b2
  clear b2 E1 HF
  go_wp2_with fail
  refine (at_flt E2.H HF2.out).mono ?_
  rintro e w3 ⟨rfl, b3⟩
  have E3 := E2.below b3
  have HF3 := hide (HF2.out.below b3)
  replace K := below_trans K b3
  clear b3 E2 HF2
  go_wp2_with fail
  refine (code_flt E3.S HF3.out).mono ?_
  rintro e w4 ⟨rfl, b4⟩
  have E4 := E3.below b4
  have HF4 := hide (HF3.out.below b4)
  replace K := below_trans K b4
  clear b4 E3 HF3
  go_wp2_with fail
  refine (HG1.out _ E4).mono ?_
  rintro e w5 ⟨⟨n5, v5, rfl, G5⟩, b5⟩
  have E5 := E4.below b5
  have HF5 := hide (HF4.out.below b5)
  have HG5 := hide G5
  replace K := below_trans K b5
  clear b5 E4 HF4 G5
  go_wp2_with fail
  refine (HG2.out _ E5).mono ?_
  rintro e w6 ⟨⟨n6, v6, rfl, G6⟩, b6⟩
  have E6 := E5.below b6
  have HF6 := hide (HF5.out.below b6)
  have HG56 := hide (HG5.out.below b6)
  have HG6 := hide G6
  replace K := below_trans K b6
  clear b6 E5 HF5 G6 HG5
  go_wp2_with fail
  refine (good_any E6 HG56.out).mono ?_
  rintro e w7 ⟨rfl, b7⟩
  have E7 := E6.below b7
  have HF7 := hide (HF6.out.below b7)
  have HG67 := hide (HG6.out.below b7)
  replace K := below_trans K b7
  clear b7 E6 HF6 HG56 HG6
  -- behind the two: a world of its own
  have fin : ∀ (W : World), Ew W a → FltIs W a v k → Below w.heap.size w W → True := fun _ _ _ _ => trivial
  clear fin
  rcases hgd with rfl | ⟨rfl, rfl⟩
  · go_wp2_with fail
    refine (good_any E7 (v := v) (g := decide (k = 0)) (Or.inr ⟨k, HF7.out, rfl⟩)).mono ?_
    rintro e wa ⟨rfl, ba⟩
    have Ea := E7.below ba
    have HFa := hide (HF7.out.below ba)
    replace K := below_trans K ba
    clear ba E7 HF7
    by_cases kz : k = 0
    · subst kz
      rw [show decide (0 = 0) = true from rfl]
      by_cases sz : s.size = 0
      · have e0 : s.toList.isEmpty = true := by
          rw [ByteArray.toList_eq, List.isEmpty_iff]
          exact List.eq_nil_of_length_eq_zero (by rw [Array.length_toList]; exact sz)
        go_wp2_with fail
        refine (lives8_any Ea).mono ?_
        rintro e wb ⟨rfl, bb⟩
        replace K := below_trans K bb
        clear bb Ea
        go_wp2
        go_ret
        exact ⟨rfl, K⟩
      · have e0 : s.toList.isEmpty = false := txt_full (by omega)
        go_wp2_with fail
        refine (isAt_flt Ea.S Ea.H HFa.out).mono ?_
        rintro e wb ⟨rfl, bb⟩
        have Eb := Ea.below bb
        replace K := below_trans K bb
        clear bb Ea HFa
        rw [show decide (((0 : Nat) : Int) = 0) = true from rfl]
        go_wp2_with fail
        refine (lives8_any Eb).mono ?_
        rintro e wc ⟨rfl, bc⟩
        replace K := below_trans K bc
        clear bc Eb
        go_wp2
        go_ret
        exact ⟨rfl, K⟩
    · rw [decide_eq_false kz]
      have hA : (scG es 0 0).2 = false ∧ k = (scG es 0 0).1 := by
        rcases HK.out with h | ⟨_, h⟩
        · exact h
        · exact absurd h kz
      by_cases ke : k = s.size
      · have k4 : ((k : Int) == (s.size : Int)) = true := by simp; omega
        clear hA
        go_wp2_with fail
        refine (lives8_any Ea).mono ?_
        rintro e wb ⟨rfl, bb⟩
        replace K := below_trans K bb
        clear bb Ea
        go_wp2
        go_ret
        exact ⟨rfl, K⟩
      · have k4 : ((k : Int) == (s.size : Int)) = false := beq_eq_false_iff_ne.2 (by omega)
        have P := plc_of hA.1
        rw [← hA.2] at P
        have h3 := P.three (by have := HB.out.2.2; omega) ms
        have H3 := hide (fun (W : World) (h : Ew W a) => read_badF (w := W) (a := a) (s := strOfNums (es.take (k + 1) ++ ms)) (es := es.take (k + 1) ++ ms) (fun x hx => by rcases List.mem_append.1 hx with hx | hx; exact HB.out.1 x (List.mem_of_mem_take hx); exact HB'.out.1 x hx) rfl (by rw [List.length_append, List.length_take]; have := HB'.out.2.2; omega) (by rw [h3]) h.S)
        rw [h3] at H3
        have H4 := hide (fun (W : World) (h : Ew W a) => read_badF (w := W) (a := a) (s := s) (es := es) HB.out.1 HB.out.2.1 (by have := HB.out.2.2; omega) hA.1 h.S)
        rw [← hA.2] at H4
        have y1 : s.extract 0 (k + 1) = strOfNums (es.take (k + 1)) := by rw [HB.out.2.1, txt_cut, List.drop_zero]
        have y2 : strOfNums (es.take (k + 1)) ++ more = strOfNums (es.take (k + 1) ++ ms) := by rw [HB'.out.2.1]; exact txt_join _ _
        have y3 : (strOfNums (es.take (k + 1))).size ≤ 1048577 := by rw [strOfNums_size, List.length_take]; omega
        obtain ⟨t3, ht3⟩ : ∃ t, strOfNums (es.take (k + 1)) = t := ⟨_, rfl⟩
        obtain ⟨t4, ht4⟩ : ∃ t, strOfNums (es.take (k + 1) ++ ms) = t := ⟨_, rfl⟩
        rw [ht3] at y1 y2 y3
        rw [ht4] at y2 H3
        obtain ⟨k', hk'⟩ : ∃ k' : Nat, k + 1 = k' := ⟨_, rfl⟩
        rw [hk'] at y1
        have y4 : ¬ 9223372036854775807 < t3.size + more.size := by omega
        have wk : IntKind.i64.wrap ((k : Int) + 1) = (k' : Int) := by rw [IntKind.wrap_i64]; omega
        have wk2 : (k : Int) + 1 = (k' : Int) := by omega
        have wk3 : k' ≤ s.size := by omega
        clear ht3 ht4 hk' h3 hA P
        go_wp2_with fail
        refine (H3.out _ Ea).mono ?_
        rintro e wb ⟨⟨vb, rfl, fb⟩, bb⟩
        have Eb := Ea.below bb
        have HFb := hide fb
        replace K := below_trans K bb
        clear bb Ea fb H3
        go_wp2_with fail
        refine (H4.out _ Eb).mono ?_
        rintro e wc ⟨⟨vc, rfl, fc⟩, bc⟩
        have Ec := Eb.below bc
        have HFbc := hide (HFb.out.below bc)
        have HFc := hide fc
        replace K := below_trans K bc
        clear bc Eb fc H4 HFb
        go_wp2_with fail
        refine (isAt_flt Ec.S Ec.H HFbc.out).mono ?_
        rintro e wd ⟨rfl, bd⟩
        have Ed := Ec.below bd
        have HFd := hide (HFc.out.below bd)
        replace K := below_trans K bd
        clear bd Ec HFbc HFc
        rw [decide_eq_true rfl]
        go_wp2_with fail
        refine (isAt_flt Ed.S Ed.H HFd.out).mono ?_
        rintro e we ⟨rfl, be⟩
        have Ee := Ed.below be
        replace K := below_trans K be
        clear be Ed HFd
        rw [decide_eq_true rfl]
        go_wp2_with fail
        refine (lives8_any Ee).mono ?_
        rintro e wf ⟨rfl, bf⟩
        replace K := below_trans K bf
        clear bf Ee
        go_wp2
        go_ret
        exact ⟨rfl, K⟩
  · go_wp2_with fail
    refine (good_any E7 HG67.out).mono ?_
    rintro e w8 ⟨rfl, b8⟩
    have E8 := E7.below b8
    have HF8 := hide (HF7.out.below b8)
    replace K := below_trans K b8
    clear b8 E7 HF7 HG67
    go_wp2_with fail
    refine (good_any E8 (v := v) (g := decide (k = 0)) (Or.inr ⟨k, HF8.out, rfl⟩)).mono ?_
    rintro e wa ⟨rfl, ba⟩
    have Ea := E8.below ba
    have HFa := hide (HF8.out.below ba)
    replace K := below_trans K ba
    clear ba E8 HF8
    by_cases kz : k = 0
    · subst kz
      rw [show decide (0 = 0) = true from rfl]
      by_cases sz : s.size = 0
      · have e0 : s.toList.isEmpty = true := by
          rw [ByteArray.toList_eq, List.isEmpty_iff]
          exact List.eq_nil_of_length_eq_zero (by rw [Array.length_toList]; exact sz)
        go_wp2_with fail
        refine (lives8_any Ea).mono ?_
        rintro e wb ⟨rfl, bb⟩
        replace K := below_trans K bb
        clear bb Ea
        go_wp2
        go_ret
        exact ⟨rfl, K⟩
      · have e0 : s.toList.isEmpty = false := txt_full (by omega)
        go_wp2_with fail
        refine (isAt_flt Ea.S Ea.H HFa.out).mono ?_
        rintro e wb ⟨rfl, bb⟩
        have Eb := Ea.below bb
        replace K := below_trans K bb
        clear bb Ea HFa
        rw [show decide (((0 : Nat) : Int) = 0) = true from rfl]
        go_wp2_with fail
        refine (lives8_any Eb).mono ?_
        rintro e wc ⟨rfl, bc⟩
        replace K := below_trans K bc
        clear bc Eb
        go_wp2
        go_ret
        exact ⟨rfl, K⟩
    · rw [decide_eq_false kz]
      have hA : (scG es 0 0).2 = false ∧ k = (scG es 0 0).1 := by
        rcases HK.out with h | ⟨_, h⟩
        · exact h
        · exact absurd h kz
      by_cases ke : k = s.size
      · have k4 : ((k : Int) == (s.size : Int)) = true := by simp; omega
        clear hA
        go_wp2_with fail
        refine (lives8_any Ea).mono ?_
        rintro e wb ⟨rfl, bb⟩
        replace K := below_trans K bb
        clear bb Ea
        go_wp2
        go_ret
        exact ⟨rfl, K⟩
      · have k4 : ((k : Int) == (s.size : Int)) = false := beq_eq_false_iff_ne.2 (by omega)
        have P := plc_of hA.1
        rw [← hA.2] at P
        have h3 := P.three (by have := HB.out.2.2; omega) ms
        have H3 := hide (fun (W : World) (h : Ew W a) => read_badF (w := W) (a := a) (s := strOfNums (es.take (k + 1) ++ ms)) (es := es.take (k + 1) ++ ms) (fun x hx => by rcases List.mem_append.1 hx with hx | hx; exact HB.out.1 x (List.mem_of_mem_take hx); exact HB'.out.1 x hx) rfl (by rw [List.length_append, List.length_take]; have := HB'.out.2.2; omega) (by rw [h3]) h.S)
        rw [h3] at H3
        have H4 := hide (fun (W : World) (h : Ew W a) => read_badF (w := W) (a := a) (s := s) (es := es) HB.out.1 HB.out.2.1 (by have := HB.out.2.2; omega) hA.1 h.S)
        rw [← hA.2] at H4
        have y1 : s.extract 0 (k + 1) = strOfNums (es.take (k + 1)) := by rw [HB.out.2.1, txt_cut, List.drop_zero]
        have y2 : strOfNums (es.take (k + 1)) ++ more = strOfNums (es.take (k + 1) ++ ms) := by rw [HB'.out.2.1]; exact txt_join _ _
        have y3 : (strOfNums (es.take (k + 1))).size ≤ 1048577 := by rw [strOfNums_size, List.length_take]; omega
        obtain ⟨t3, ht3⟩ : ∃ t, strOfNums (es.take (k + 1)) = t := ⟨_, rfl⟩
        obtain ⟨t4, ht4⟩ : ∃ t, strOfNums (es.take (k + 1) ++ ms) = t := ⟨_, rfl⟩
        rw [ht3] at y1 y2 y3
        rw [ht4] at y2 H3
        obtain ⟨k', hk'⟩ : ∃ k' : Nat, k + 1 = k' := ⟨_, rfl⟩
        rw [hk'] at y1
        have y4 : ¬ 9223372036854775807 < t3.size + more.size := by omega
        have wk : IntKind.i64.wrap ((k : Int) + 1) = (k' : Int) := by rw [IntKind.wrap_i64]; omega
        have wk2 : (k : Int) + 1 = (k' : Int) := by omega
        have wk3 : k' ≤ s.size := by omega
        clear ht3 ht4 hk' h3 hA P
        go_wp2_with fail
        refine (H3.out _ Ea).mono ?_
        rintro e wb ⟨⟨vb, rfl, fb⟩, bb⟩
        have Eb := Ea.below bb
        have HFb := hide fb
        replace K := below_trans K bb
        clear bb Ea fb H3
        go_wp2_with fail
        refine (H4.out _ Eb).mono ?_
        rintro e wc ⟨⟨vc, rfl, fc⟩, bc⟩
        have Ec := Eb.below bc
        have HFbc := hide (HFb.out.below bc)
        have HFc := hide fc
        replace K := below_trans K bc
        clear bc Eb fc H4 HFb
        go_wp2_with fail
        refine (isAt_flt Ec.S Ec.H HFbc.out).mono ?_
        rintro e wd ⟨rfl, bd⟩
        have Ed := Ec.below bd
        have HFd := hide (HFc.out.below bd)
        replace K := below_trans K bd
        clear bd Ec HFbc HFc
        rw [decide_eq_true rfl]
        go_wp2_with fail
        refine (isAt_flt Ed.S Ed.H HFd.out).mono ?_
        rintro e we ⟨rfl, be⟩
        have Ee := Ed.below be
        replace K := below_trans K be
        clear be Ed HFd
        rw [decide_eq_true rfl]
        go_wp2_with fail
        refine (lives8_any Ee).mono ?_
        rintro e wf ⟨rfl, bf⟩
        replace K := below_trans K bf
        clear bf Ee
        go_wp2
        go_ret
        exact ⟨rfl, K⟩

end Go.Proofs.YtfnfnkakaggmbaaGreatDoor
