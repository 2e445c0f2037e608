/- both scanners beside each other: does, all -/
import Derived.Test.YtefmlajndillbaaGreatDoorDnG
import Derived.Deep.RegionHeld3
namespace Go.Proofs.YtefmlajndillbaaGreatDoor
open Go.RowKit
set_option linter.unusedVariables false

theorem cell_block {w w' : World} {b : Nat} (h : w'.heap[b]? = w.heap[b]?) (i : Nat) : w'.cell? ⟨b, i, none⟩ = w.cell? ⟨b, i, none⟩ := by
  unfold World.cell?
  simp only [h]
/-- what a call on a place leaves: its own blocks alone turn -/
structure Fb (p r : Nat) (ov ov' tv tv' : Value) (w w' : World) : Prop where
  os : w'.os = w.os
  tape : w'.tape = w.tape
  output : w'.output = w.output
  size : w.heap.size ≤ w'.heap.size
  block : ∀ k, k < w.heap.size → k ≠ p → k ≠ r → ov.ownBlock ≠ some k → tv.ownBlock ≠ some k → w'.heap[k]? = w.heap[k]?
  o1 : ov'.ownBlock = ov.ownBlock ∨ ∀ k, ov'.ownBlock = some k → w.heap.size ≤ k
  o2 : tv'.ownBlock = tv.ownBlock ∨ ∀ k, tv'.ownBlock = some k → w.heap.size ≤ k
theorem Fb.below {p r : Nat} {ov tv : Value} {w w' : World} (h : Below w.heap.size w w') : Fb p r ov ov tv tv w w' :=
  ⟨h.os, h.tape, h.output, h.size, fun k hk _ _ _ _ => h.block k hk, Or.inl rfl, Or.inl rfl⟩
theorem Fb.trans {p r : Nat} {o1 o2 o3 t1 t2 t3 : Value} {a b c : World} (h : Fb p r o1 o2 t1 t2 a b) (k : Fb p r o2 o3 t2 t3 b c) : Fb p r o1 o3 t1 t3 a c := by
  refine ⟨k.os.trans h.os, k.tape.trans h.tape, k.output.trans h.output, Nat.le_trans h.size k.size, fun i hi h1 h2 h3 h4 => ?_, ?_, ?_⟩
  · rw [k.block i (Nat.lt_of_lt_of_le hi h.size) h1 h2 ?_ ?_, h.block i hi h1 h2 h3 h4]
    · rcases h.o1 with e | e
      · rw [e]; exact h3
      · intro g; have := e i g; omega
    · rcases h.o2 with e | e
      · rw [e]; exact h4
      · intro g; have := e i g; omega
  · rcases k.o1 with e | e
    · rw [e]; exact h.o1
    · exact Or.inr fun i g => Nat.le_trans h.size (e i g)
  · rcases k.o2 with e | e
    · rw [e]; exact h.o2
    · exact Or.inr fun i g => Nat.le_trans h.size (e i g)
theorem Fb.ofT {p r : Nat} {ov ov' tv : Value} {w w' : World} (h : Fr p ov ov' w w') : Fb p r ov ov' tv tv w w' :=
  ⟨h.os, h.tape, h.output, h.size, fun k hk h1 _ h3 _ => h.block k hk h1 h3, h.own, Or.inl rfl⟩
theorem Fb.ofR {p r : Nat} {ov tv tv' : Value} {w w' : World} (h : Fr r tv tv' w w') : Fb p r ov ov tv tv' w w' :=
  ⟨h.os, h.tape, h.output, h.size, fun k hk _ h2 _ h4 => h.block k hk h2 h4, Or.inl rfl, h.own⟩
/-- a place: the program's scanner beside the document's -/
structure Pl (w : World) (a : Nat → Addr) (B bp of p r : Nat) (ov tv : Value) (s : Sc) : Prop where
  ts : ScP w a B p ov s
  rs : DS w B r tv s
  c0 : w.cell? ⟨bp, of, none⟩ = some (.pointer (some ⟨p, 0, none⟩))
  c1 : w.cell? ⟨bp, of + 1, none⟩ = some (.pointer (some ⟨r, 0, none⟩))
  lt : bp < w.heap.size
  ne : p ≠ r ∧ bp ≠ p ∧ bp ≠ r
  ap : ∀ g, ov.ownBlock = some g → tv.ownBlock ≠ some g ∧ g ≠ bp ∧ g ≠ r
  ar : ∀ g, tv.ownBlock = some g → g ≠ bp ∧ g ≠ p
theorem Pl.below {w w' : World} {a : Nat → Addr} {B bp of p r : Nat} {ov tv : Value} {s : Sc} (h : Pl w a B bp of p r ov tv s) (hb : Below w.heap.size w w') : Pl w' a B bp of p r ov tv s :=
  ⟨h.ts.below hb, h.rs.below hb, by rw [cell_block (hb.block _ h.lt)]; exact h.c0, by rw [cell_block (hb.block _ h.lt)]; exact h.c1, Nat.lt_of_lt_of_le h.lt hb.size, h.ne, h.ap, h.ar⟩
theorem Pl.toBelow {w w' : World} {a : Nat → Addr} {B bp of p r : Nat} {ov tv ov' tv' : Value} {s : Sc} (h : Pl w a B bp of p r ov tv s) (f : Fb p r ov ov' tv tv' w w') : Below B w w' :=
  ⟨f.os, f.tape, f.output, f.size, fun k hk => by
    have h1 := h.ts.sc.le
    have h2 := h.rs.le
    have h3 := h.ts.sc.lt
    refine f.block k (by omega) (by omega) (by omega) (fun e => ?_) (fun e => ?_)
    · have := (h.ts.sc.ownLt k e).1; omega
    · have := (h.rs.ownLt k e).1; omega⟩
/-- behind the program's Write -/
theorem Pl.wrT {w w' : World} {a : Nat → Addr} {B bp of p r : Nat} {ov ov' tv : Value} {s s' : Sc} (h : Pl w a B bp of p r ov tv s) (f : Fr p ov ov' w w') : DS w' B r tv s ∧ w'.cell? ⟨bp, of, none⟩ = some (.pointer (some ⟨p, 0, none⟩)) ∧ w'.cell? ⟨bp, of + 1, none⟩ = some (.pointer (some ⟨r, 0, none⟩)) := by
  have hb : w'.heap[bp]? = w.heap[bp]? := f.block bp h.lt h.ne.2.1 (fun e => (h.ap bp e).2.1 rfl)
  refine ⟨h.rs.blocks (f.block r h.rs.lt (fun e => h.ne.1 e.symm) (fun e => (h.ap r e).2.2 rfl)) (fun g hg => f.block g (h.rs.ownLt g hg).2 (h.ar g hg).2 (fun e => (h.ap g e).1 hg)), ?_, ?_⟩
  · rw [cell_block hb]; exact h.c0
  · rw [cell_block hb]; exact h.c1
/-- behind both -/
theorem Pl.wrR {w w' w'' : World} {a : Nat → Addr} {B bp of p r : Nat} {ov ov' tv tv' : Value} {s s' : Sc} (h : Pl w a B bp of p r ov tv s) (f : Fr p ov ov' w w') (ht : ScP w' a B p ov' s') (g : Fr r tv tv' w' w'') (hr : DS w'' B r tv' s') : Pl w'' a B bp of p r ov' tv' s' := by
  obtain ⟨h1, h2, h3⟩ := h.wrT (s' := s') f
  have hbl : bp < w'.heap.size := Nat.lt_of_lt_of_le h.lt f.size
  have hb : w''.heap[bp]? = w'.heap[bp]? := g.block bp hbl h.ne.2.2 (fun e => (h.ar bp e).1 rfl)
  have hov : ∀ k, ov'.ownBlock = some k → k ≠ r ∧ tv.ownBlock ≠ some k ∧ k ≠ bp := fun k e => by
    rcases f.own with q | q
    · rw [q] at e; exact ⟨(h.ap k e).2.2, (h.ap k e).1, (h.ap k e).2.1⟩
    · have := q k e
      have h4 := h.rs.lt
      have h5 := h.lt
      exact ⟨by omega, fun e2 => by have := (h.rs.ownLt k e2).2; omega, by omega⟩
  refine ⟨ht.blocks (g.block p ht.sc.lt h.ne.1 (fun e => (h.ar p e).2 rfl)) (fun k e => g.block k (ht.sc.ownLt k e).2 (hov k e).1 (hov k e).2.1), hr, by rw [cell_block hb]; exact h2, by rw [cell_block hb]; exact h3, Nat.lt_of_lt_of_le hbl g.size, h.ne, fun k e => ⟨fun e2 => ?_, (hov k e).2.2, (hov k e).1⟩, fun k e => ?_⟩
  · rcases g.own with q | q
    · rw [q] at e2; exact (hov k e).2.1 e2
    · have := q k e2
      have := (ht.sc.ownLt k e).2
      omega
  · rcases g.own with q | q
    · rw [q] at e; exact h.ar k e
    · have := q k e
      have h4 := ht.sc.lt
      exact ⟨by omega, by omega⟩
theorem tl_fr {w w' : World} {a : Nat → Addr} {L n r : Nat} {k : Int} {v tv tv' : Value} (h : Tl w a L n k v) (f : Fr r tv tv' w w') (hr : r < L) (ho : ∀ g, tv.ownBlock = some g → g < L) : Tl w' a L n k v := by
  rcases h with h | ⟨m, g, h1, h2, h3, h4, h5⟩
  · exact Or.inl h
  · refine Or.inr ⟨m, g, h1, h2, h3, h4, ?_⟩
    unfold FltAt at h5 ⊢
    rw [f.block g (Array.getElem?_eq_some_iff.1 h5).1 (by omega) (fun e => by have := ho g e; omega)]
    exact h5
theorem isat_nil {w : World} {z : Int} : Calls Tryz.prog 21 #[.nilIface, .int .i64 0, .int .i64 z] w fun e w' => e = .returned (.bool true) ∧ w' = w := by
  go_enter Tryz.func21, Tryz.ntmps21
  go_wp2
  go_ret
  exact ⟨rfl, rfl⟩
/-- an error that is told, against the document's -/
theorem pfits {w : World} {a : Nat → Addr} {L n k : Nat} {v : Value} (h : Tl w a L n k v) (hn : n = 0 ∨ n = 3 ∨ n = 5) (hS : Snt w a) (hH : Hnd w) :
    Calls Tryz.prog 12 #[v, fltV n (atC n k)] w fun e w' => e = .returned (.bool true) ∧ Below w.heap.size w w' := by
  have hbl : ∀ c z : Int, Below w.heap.size w (w.alloc (.cells #[.int .i64 c, .int .i64 z, .string ⟨#[]⟩] 39)) := fun c z => (Below.refl _ _).alloc (Nat.le_refl _) _
  by_cases h0 : n = 0
  · subst h0
    rcases h with ⟨_, rfl⟩ | ⟨m, g, h1, _⟩
    · have C := hide (isat_nil (w := w.alloc (.cells #[.int .i64 0, .int .i64 0, .string ⟨#[]⟩] 39)) (z := 0))
      have HB := hide (hbl 0 0)
      have e : fltV ((0 : Nat) : Int) (atC 0 k) = .agg #[.int .i64 0, .int .i64 0, .string ⟨#[]⟩] := rfl
      rw [e]
      clear e hbl hS hH
      go_enter Tryz.func12, Tryz.ntmps12
      go_wp2_with fail
      refine C.out.mono ?_
      rintro e w1 ⟨rfl, rfl⟩
      clear C
      go_wp2
      go_ret
      exact ⟨rfl, HB.out⟩
    · omega
  · have e : fltV (n : Int) (atC n k) = .agg #[.int .i64 (n : Int), .int .i64 (k : Int), .string ⟨#[]⟩] := by simp [fltV, atC, h0]
    rw [e]
    have HB := hide (hbl n k)
    have C := hide (jisat n (k : Int) (h.below HB.out) (by omega) h0 (by omega) (hS.below HB.out) (hH.below HB.out))
    simp only [decide_true, Bool.and_true] at C
    obtain ⟨N, hN⟩ : ∃ N : Int, (n : Int) = N := ⟨_, rfl⟩
    obtain ⟨K, hK⟩ : ∃ K : Int, (k : Int) = K := ⟨_, rfl⟩
    rw [hN, hK] at C HB ⊢
    have hN2 : (N == 2) = false := by simp; omega
    clear e hbl hS hH h hn h0 hN hK
    go_enter Tryz.func12, Tryz.ntmps12
    go_wp2_with fail
    refine C.out.mono ?_
    rintro e w1 ⟨rfl, hb1⟩
    have HB2 := hide (HB.out.trans (hb1.mono HB.out.size))
    clear C hb1
    go_wp2
    go_ret
    exact ⟨rfl, HB2.out⟩
/-- the sentinels and the handle lie below B -/
def SH (B : Nat) (w : World) (a : Nat → Addr) : Prop := ∀ w', Below B w w' → Snt w' a ∧ Hnd w'
theorem SH.below {B : Nat} {w w' : World} {a : Nat → Addr} (h : SH B w a) (hb : Below B w w') : SH B w' a := fun w'' h'' => h w'' (hb.trans h'')
theorem SH.of {w : World} {a : Nat → Addr} (h : Snt w a) (k : Hnd w) : SH w.heap.size w a := fun w' hb => ⟨h.below hb, k.below hb⟩
theorem SH.snt {B : Nat} {w : World} {a : Nat → Addr} (h : SH B w a) : SntB B w a := fun w' hb => (h w' hb).1
theorem bad_ok {s : Sc} (h : GoodS s) : s.st.bad = 0 ∨ s.st.bad = 3 ∨ s.st.bad = 5 := h.bd
theorem code_ok {s : Sc} (h : GoodS s) : codeC s = 0 ∨ codeC s = 3 ∨ codeC s = 5 := by
  unfold codeC
  have := h.bd
  split
  · split <;> omega
  · exact this
/-- what a call leaves of a place -/
def Done (w : World) (a : Nat → Addr) (B bp of p r : Nat) (ov tv : Value) (s : Sc) (e : Ending) (w' : World) : Prop :=
  e = .returned (.bool true) ∧ ∃ ov' tv', Pl w' a B bp of p r ov' tv' s ∧ Fb p r ov ov' tv tv' w w'
set_option maxRecDepth 100000 in
set_option maxHeartbeats 4000000 in
theorem does_w {w : World} {a : Nat → Addr} {B bp of p r : Nat} {ov tv : Value} {s : Sc} {on : Int} {es : List Int} {ch : ByteArray} (h : Pl w a B bp of p r ov tv s) (hS : SH B w a) (hb : uByt es) (hch : ch = strOfNums es) (hsz : s.size + es.length + 4 ≤ 140737488355328) :
    Calls Tryz.prog 8 #[.pointer (some ⟨bp, of, none⟩), .agg #[.int .i64 1, .int .i64 on, .string ch]] w (Done w a B bp of p r ov tv (writeB es s)) := by
  have HB : Below w.heap.size w (w.alloc (.cells #[.int .i64 1, .int .i64 on, .string ch] 31)) := (Below.refl _ _).alloc (Nat.le_refl _) _
  have hBw : B ≤ w.heap.size := by have h1 := h.ts.sc.le; have h2 := h.ts.sc.lt; omega
  obtain ⟨O, hO⟩ : ∃ O, w.heap.size = O := ⟨_, rfl⟩
  have hnew := heap_alloc_new w (.cells #[.int .i64 1, .int .i64 on, .string ch] 31)
  rw [hO] at hnew
  have hpl := h.below HB
  have hss := hS.below (HB.mono hBw)
  have hszW : (w.alloc (.cells #[.int .i64 1, .int .i64 on, .string ch] 31)).heap.size = O + 1 := by rw [← hO]; simp
  have HFB := hide (Fb.below (p := p) (r := r) (ov := ov) (tv := tv) HB)
  have hbpO : bp < O := by have := h.lt; omega
  have HRO := hide (show r < O from by have := h.rs.lt; omega)
  have HPO := hide (show p < O from by have := h.ts.sc.lt; omega)
  have HOV := hide (show ∀ g, ov.ownBlock = some g → g < O from fun g e => by have := (h.ts.sc.ownLt g e).2; omega)
  have HTV := hide (show ∀ g, tv.ownBlock = some g → g < O from fun g e => by have := (h.rs.ownLt g e).2; omega)
  have k0 : (w.alloc (.cells #[.int .i64 1, .int .i64 on, .string ch] 31)).cell? ⟨O, 0, none⟩ = some (.int .i64 1) := Lib.cell_of_heap hnew 0
  obtain ⟨W, hW⟩ : ∃ W, w.alloc (.cells #[.int .i64 1, .int .i64 on, .string ch] 31) = W := ⟨_, rfl⟩
  rw [hW] at HB hnew hpl hss hszW HFB k0
  have hd : Below W.heap.size W W.drew := (Below.refl _ _).drew
  have hpd := hpl.below hd
  have hsd := hss.below (hd.mono (by omega))
  have CW := hide (jWrite hpd.ts (hsd.snt) hb hch (by omega))
  have HPD := hide hpd
  have HSD := hide hsd
  have HGW := hide (good_write h.ts.good es hb)
  have HD := hide (show _ ∧ _ ∧ _ from ⟨hb, hch, hsz⟩)
  have HNW := hide hnew
  have KS : W.drew.cell? ⟨bp, of, none⟩ = some (.pointer (some ⟨p, 0, none⟩)) ∧ W.drew.cell? ⟨bp, of + 1, none⟩ = some (.pointer (some ⟨r, 0, none⟩)) ∧ W.drew.cell? ⟨O, 2, none⟩ = some (.string ch) := ⟨hpd.c0, hpd.c1, Lib.cell_of_heap hnew 2⟩
  clear h hS hb hch hsz hpl hss hpd hsd hd HB hnew
  go_enter Tryz.func8, Tryz.ntmps8
  go_wp2_with fail
  go_region_held3 (fun u => u.cell? ⟨bp, of, none⟩ = some (.pointer (some ⟨p, 0, none⟩)) ∧ u.cell? ⟨bp, of + 1, none⟩ = some (.pointer (some ⟨r, 0, none⟩)) ∧ u.cell? ⟨O, 2, none⟩ = some (.string ch)) (with_reducible exact KS)
    (first
      | (go_at_call 13; (refine CW.out.mono ?_); rintro e w2 ⟨v, ov2, rfl, g1, g2, g3⟩
         have ho2 : w2.heap[O]? = W.drew.heap[O]? := g3.block O (by show O < W.heap.size; omega) (by have := HPO.out; omega) (fun e => by have := HOV.out O e; omega)
         have hq := HPD.out.wrT (s' := writeB es s) g3
         have hs2 := HSD.out.below (HPD.out.toBelow (Fb.ofT g3))
         have C2 := hide (dWrite hq.1 HPD.out.ts.good HD.out.1 HD.out.2.1 HD.out.2.2)
         have Z2 := hide (show _ ∧ _ ∧ _ ∧ _ from ⟨g1, g2, g3, hs2⟩)
         replace KS : w2.cell? ⟨bp, of, none⟩ = some (.pointer (some ⟨p, 0, none⟩)) ∧ w2.cell? ⟨bp, of + 1, none⟩ = some (.pointer (some ⟨r, 0, none⟩)) ∧ w2.cell? ⟨O, 2, none⟩ = some (.string ch) := ⟨hq.2.1, hq.2.2, by rw [cell_block ho2]; exact Lib.cell_of_heap HNW.out 2⟩
         have HO2 := hide ho2
         clear g1 g2 g3 hq hs2 ho2)
      | (go_at_call 14; (refine C2.out.mono ?_); rintro e w3 ⟨tv2, rfl, j1, j2⟩
         have hsz3 : W.heap.size ≤ w2.heap.size := Z2.out.2.2.1.size
         have ho3 : w3.heap[O]? = w2.heap[O]? := j2.block O (by omega) (by have := HRO.out; omega) (fun e => by have := HTV.out O e; omega)
         have hp3 := HPD.out.wrR Z2.out.2.2.1 Z2.out.1 j2 j1
         have hs3 := Z2.out.2.2.2.below (j2.below (HPD.out.rs.le) (by have h1 := HPD.out.ts.sc.le; have h2 := HPO.out; omega) (fun k e => (HPD.out.rs.ownLt k e).1))
         have ht3 : Tl w3 a W.drew.heap.size (writeB es s).st.bad (writeB es s).size v := tl_fr Z2.out.2.1 j2 (by show r < W.heap.size; have := HRO.out; omega) (fun g e => by show g < W.heap.size; have := HTV.out g e; omega)
         have C3 := hide (pfits ht3 (bad_ok HGW.out) (hs3 w3 (Below.refl _ _)).1 (hs3 w3 (Below.refl _ _)).2)
         have Z3 := hide (show _ ∧ _ from ⟨hp3, j2⟩)
         replace KS : w3.cell? ⟨bp, of, none⟩ = some (.pointer (some ⟨p, 0, none⟩)) ∧ w3.cell? ⟨bp, of + 1, none⟩ = some (.pointer (some ⟨r, 0, none⟩)) ∧ w3.cell? ⟨O, 2, none⟩ = some (.string ch) := ⟨hp3.c0, hp3.c1, by rw [cell_block ho3, cell_block HO2.out]; exact Lib.cell_of_heap HNW.out 2⟩
         have HO3 := hide ho3
         clear j1 j2 hsz3 ho3 hp3 hs3 ht3)
      | (go_at_call 12; (refine C3.out.mono ?_); rintro e w4 ⟨rfl, hb4⟩
         have hp4 := Z3.out.1.below hb4
         have hlt4 := Z3.out.1.lt
         have ho4 : w4.heap[O]? = w3.heap[O]? := hb4.block O (by have h1 := Z2.out.2.2.1.size; have h2 := Z3.out.2.size; have h3 : W.drew.heap.size = W.heap.size := rfl; omega)
         have Z4 := hide (show _ ∧ _ from ⟨hp4, hb4⟩)
         replace KS : w4.cell? ⟨bp, of, none⟩ = some (.pointer (some ⟨p, 0, none⟩)) ∧ w4.cell? ⟨bp, of + 1, none⟩ = some (.pointer (some ⟨r, 0, none⟩)) ∧ w4.cell? ⟨O, 2, none⟩ = some (.string ch) := ⟨hp4.c0, hp4.c1, by rw [cell_block ho4, cell_block HO3.out, cell_block HO2.out]; exact Lib.cell_of_heap HNW.out 2⟩
         clear hp4 hb4 hlt4 ho4))
  clear KS
  go_wp2
  go_ret
  exact ⟨rfl, ov2, tv2, Z4.out.1, ((HFB.out.trans (Fb.below (Below.refl _ _).drew)).trans ((Fb.ofT Z2.out.2.2.1).trans (Fb.ofR Z3.out.2))).trans (Fb.below Z4.out.2)⟩

end Go.Proofs.YtefmlajndillbaaGreatDoor
