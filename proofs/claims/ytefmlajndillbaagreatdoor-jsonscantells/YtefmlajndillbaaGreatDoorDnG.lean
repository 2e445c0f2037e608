/- both scanners: the document's Write -/
import Derived.Test.YtefmlajndillbaaGreatDoorDnF
namespace Go.Proofs.YtefmlajndillbaaGreatDoor
open Go.RowKit
set_option linter.unusedVariables false

theorem Fr.putNew {p G i : Nat} {o1 o2 : Value} {w w' : World} (h : Fr p o1 o2 w w') (hG : w.heap.size ≤ G) (u : Value) : Fr p o1 o2 w (w'.setCell ⟨G, i, Option.none⟩ u) :=
  ⟨h.os, h.tape, h.output, by have := h.size; simpa [World.setCell] using this, fun k hk hp ho => (Below.heap_setCell _ _ _ _ (show k ≠ G by omega)).trans (h.block k hk hp ho), h.own⟩
theorem DS.putNew {w : World} {B p G i : Nat} {tv : Value} {s : Sc} (h : DS w B p tv s) (hp : p ≠ G) (ho : tv.ownBlock ≠ some G) (u : Value) : DS (w.setCell ⟨G, i, Option.none⟩ u) B p tv s :=
  h.blocks (Below.heap_setCell _ _ _ _ hp) (fun g hg => Below.heap_setCell _ _ _ _ (fun e => ho (by rw [← (show g = G from e)]; exact hg)))
/-- behind a byte that is wrong -/
theorem ds_bad {w w2 : World} {B p : Nat} {tv2 : Value} {es2 : List Int} {d d2 : Dc} {S : Sc} {u : St} {code : Nat} {c : Int} (q1 : DcS w2 B p tv2 es2 d2) (hz : d2.size = S.size) (s1 : stepB S.md c { S.st with ends := false } = (none, u)) (s2 : code = (if u.bad = 0 then 3 else u.bad)) (s3 : code ≠ 0) (s4 : d2.opn = S.st.opn.map (fun c => c - 2)) (s5 : u.opn = S.st.opn) :
    DS (((w2.setCell ⟨p, 13, none⟩ (.int .i64 code)).setCell ⟨p, 14, none⟩ (.int .i64 S.size)).setCell ⟨p, 15, none⟩ (.string ⟨#[]⟩)) B p tv2 (takeB c S) := by
  have e : takeB c S = ⟨S.md, S.size, { u with bad := code }⟩ := by unfold takeB; rw [s1, s2]
  rw [e]
  refine ⟨es2, _, ((q1.code code).at_ S.size).f15, hz, rfl, ?_, ?_, fun h => absurd h s3⟩
  · rw [if_neg s3]
  · show d2.opn = u.opn.map _
    rw [s4, s5]
/-- behind a byte that goes on -/
theorem ds_good {w w2 : World} {B p : Nat} {tv2 : Value} {es2 : List Int} {d d2 : Dc} {S : Sc} {u : St} {m' : Md} {c : Int} (q1 : DcS w2 B p tv2 es2 d2) (hz : d2.size = S.size) (hc : d2.code = 0) (ha : d2.at_ = 0) (hg : Good S.md { S.st with ends := false }) (h0 : 0 ≤ c) (h1 : c < 256) (hb : S.st.bad = 0) (s1 : stepB S.md c { S.st with ends := false } = (some m', u)) (s3 : DRel m' u d2 es2 (S.size + 1)) (s4 : u.ends = endM m') :
    DS (w2.setCell ⟨p, 12, none⟩ (.int .i64 ((S.size : Int) + 1))) B p tv2 (takeB c S) := by
  have e : takeB c S = ⟨m', S.size + 1, u⟩ := by unfold takeB; rw [s1]
  have hu : u.bad = 0 := by have := gr_step hg c h0 h1; rw [s1] at this; exact this.2.trans hb
  rw [e]
  refine ⟨es2, _, q1.size _, by simp, by show d2.code = (u.bad : Int); rw [hc, hu]; rfl, by show d2.at_ = if u.bad = 0 then 0 else _; rw [if_pos hu, ha], ?_, fun _ => ⟨?_, s4⟩⟩
  · obtain ⟨n, g1, g2, _⟩ := s3
    show d2.opn = _
    rw [g1.2.1, g2.op]
  · exact s3.cells rfl
/-- what Write leaves -/
def DWr (w : World) (B p : Nat) (tv : Value) (s : Sc) (es : List Int) (e : Ending) (w' : World) : Prop :=
  ∃ tv', e = .returned (fltV (writeB es s).st.bad (atC (writeB es s).st.bad (writeB es s).size)) ∧ DS w' B p tv' (writeB es s) ∧ Fr p tv tv' w w'
set_option maxRecDepth 100000 in
set_option maxHeartbeats 4000000 in
theorem dWrite {w : World} {B p : Nat} {tv : Value} {s : Sc} {es : List Int} {ch : ByteArray} (h : DS w B p tv s) (hg : GoodS s) (hb : uByt es) (hch : ch = strOfNums es) (hsz : s.size + es.length + 4 ≤ 140737488355328) :
    Calls Tryz.prog 14 #[.pointer (some ⟨p, 0, none⟩), .string ch] w (DWr w B p tv s es) := by
  have hlt := h.lt
  have hne : ¬ (p = w.heap.size) := by omega
  have hbl : Below w.heap.size w (w.alloc (.cells #[.int .i64 0, .int .i64 0, .string ⟨#[]⟩] 39)) := (Below.refl _ _).alloc (Nat.le_refl _) _
  have hcs : ch.size = es.length := by rw [hch, strOfNums_size]
  have Hix := hide (show ∀ q (g : q < ch.size), (((ch[q]'g).toNat : Nat) : Int) = Nt.lb es q from fun q g => by subst hch; exact utxt_at g hb)
  have HBy := hide (show ∀ q, q < es.length → 0 ≤ Nt.lb es q ∧ Nt.lb es q < 256 from fun q g => by have := hb _ (List.getElem_mem g); simpa [Nt.lb, g] using this)
  have HSZ := hide hsz
  have HGW := hide (show ∀ k, GoodS (writeB (es.take k) s) from fun k => good_write hg _ (fun x hx => hb x (List.mem_of_mem_take hx)))
  have HH := hide (h.below hbl)
  have HF0 := hide (Fr.of_below (p := p) (ov := tv) hbl)
  have HOW := hide (show ∀ k, tv.ownBlock = some k → k < w.heap.size from fun k e => (h.ownLt k e).2)
  have c0 : w.cell? ⟨p, 0, none⟩ = some (.bool true) := by obtain ⟨es1, d, h1, _⟩ := h; exact (dg_of h1.blk).c0
  obtain ⟨L, hL⟩ : ∃ L, es.length = L := ⟨_, rfl⟩
  have HL := hide hL
  rw [hL] at hcs
  clear h hg hb hch hsz hbl hL
  go_enter Tryz.func14, Tryz.ntmps14
  go_wp2
  obtain ⟨G, hG⟩ : ∃ G, w.heap.size = G := ⟨_, rfl⟩
  rw [hG]
  rw [hG] at hlt hne
  have hGB : (w.alloc (.cells #[.int .i64 0, .int .i64 0, .string ⟨#[]⟩] 39)).heap[G]? = some (.cells #[.int .i64 0, .int .i64 0, .string ⟨#[]⟩] 39) := by rw [← hG]; exact heap_alloc_new w _
  have hsW : (w.alloc (.cells #[.int .i64 0, .int .i64 0, .string ⟨#[]⟩] 39)).heap.size = G + 1 := by rw [← hG]; simp
  obtain ⟨W0, hW0⟩ : ∃ W0, w.alloc (.cells #[.int .i64 0, .int .i64 0, .string ⟨#[]⟩] 39) = W0 := ⟨_, rfl⟩
  rw [hW0] at HH HF0 hGB hsW ⊢
  have HGG := hide (show _ ∧ _ ∧ _ from ⟨hGB, hsW, hG⟩)
  clear hGB hsW hG hW0 c0
  go_loopg [5] L (fun c i wr => ∃ (k : Nat) (tv1 : Value), k ≤ L ∧ i = .int .i64 k ∧ c = L - k ∧ Hid (DS wr B p tv1 (writeB (es.take k) s)) ∧ Hid (Fr p tv tv1 W0 wr))
  case atStart => exact ⟨0, tv, by omega, rfl, by omega, hide HH.out, hide (Fr.refl _ _ _)⟩
  case round =>
    obtain ⟨k, tv1, hk, rfl, hc, HP, HF⟩ := hrel
    obtain ⟨es1, d, e1, e2, e3, e4, e5, e6⟩ := HP.out
    have c12 := (dg_of e1.blk).c12
    have c13 := (dg_of e1.blk).c13
    have c14 := (dg_of e1.blk).c14
    have c15 := (dg_of e1.blk).c15
    rw [e2] at c12
    rw [e3] at c13
    rw [e4] at c14
    obtain ⟨X, hX⟩ : ∃ X, writeB (es.take k) s = X := ⟨_, rfl⟩
    have hgood := HGW.out k
    rw [hX] at HP e2 e3 e4 e5 e6 c12 c13 c14 hgood
    by_cases hgo : k < L ∧ X.st.bad = 0
    · obtain ⟨hlt', hbad⟩ := hgo
      have p1 : (k : Int) < (L : Int) := by omega
      have p2 : (0 : Int) ≤ (k : Int) := by omega
      have hw := write_size (es.take k) s
      rw [hX] at hw
      have hln : (es.take k).length ≤ k := by simp; omega
      have h63 := HSZ.out
      have hLL := HL.out
      have hxz : X.size + 4 ≤ 140737488355328 := by omega
      have hcb := HBy.out k (by omega)
      have hkc : k < ch.size := by omega
      have hix := Hix.out k hkc
      have hst := hide (write_step (s := s) (by omega : k < es.length) (by rw [hX]; exact hbad))
      have hgf := good_false (hgood.ok hbad)
      have CT := hide (dstep (c := Nt.lb es k) e1 ((e6 hbad).1.ends false) hgf hxz hbad rfl hcb.1 hcb.2)
      rw [hbad] at c13 c14 e4
      rw [if_pos rfl] at c14 e4
      have HD := hide (show _ ∧ _ ∧ _ ∧ _ ∧ _ ∧ _ from ⟨e2, e3, e4, hbad, hgf, hcb⟩)
      have p3 : (k : Int) + 1 ≤ 9223372036854775807 := by omega
      have p4 : (X.size : Int) + 1 ≤ 9223372036854775807 := by omega
      clear hw hln h63 hLL hgood hgf hcb e1 e2 e3 e4 e5 e6 c12 c14 c15 hxz hbad
      obtain ⟨c, hcc⟩ : ∃ c, Nt.lb es k = c := ⟨_, rfl⟩
      rw [hcc] at hix CT hst HD
      clear hcc
      go_wp2_with fail
      refine CT.out.mono ?_
      rintro e w2 ⟨code, tv2, es2, d2, rfl, q1, q2, q3, q4, q5, q6⟩
      have F2 := hide (HF.out.trans q2)
      clear CT c13 q2
      rcases q6 with ⟨u, s1, s2, s3, s4, s5⟩ | ⟨m', u, s1, s2, s3, s4⟩
      · have c12 := (dg_of q1.blk).c12
        have c13 := (dg_of q1.blk).c13
        have c14 := (dg_of q1.blk).c14
        have c15 := (dg_of q1.blk).c15
        have f13 := q1.frz 13
        have f14 := q1.frz 14
        have f15 := q1.frz 15
        rw [q3, HD.out.1] at c12
        have N := hide (ds_bad (w := w2) (d := d2) q1 (by rw [q3, HD.out.1]) s1 s2 s3 s4 s5)
        have hcd : ((code : Int) != 0) = true := by simp; exact s3
        clear q1 q3 q4 q5 s1 s2 s3 s4 s5 HD
        obtain ⟨CD, hCD⟩ : ∃ CD : Int, (code : Int) = CD := ⟨_, rfl⟩
        obtain ⟨SZ, hSZ⟩ : ∃ SZ : Int, (X.size : Int) = SZ := ⟨_, rfl⟩
        rw [hCD] at N hcd ⊢
        rw [hSZ] at N c12
        clear hCD hSZ p4
        go_wp2
        go_roundg (L - (k + 1))
        case measure => omega
        case rel => exact ⟨k + 1, tv2, by omega, by go_num, rfl, by rw [hst.out, hX]; exact hide N.out, hide (((F2.out.setP _).setP _).setP _)⟩
      · subst s2
        have c12 := (dg_of q1.blk).c12
        have f12 := q1.frz 12
        rw [q3, HD.out.1] at c12
        have N := hide (ds_good (w := w2) (d := d2) q1 (by rw [q3, HD.out.1]) (by rw [q4, HD.out.2.1, HD.out.2.2.2.1]; rfl) (by rw [q5, HD.out.2.2.1]) HD.out.2.2.2.2.1 HD.out.2.2.2.2.2.1 HD.out.2.2.2.2.2.2 HD.out.2.2.2.1 s1 s3 s4)
        clear q1 q3 q4 q5 s1 s3 s4 HD
        obtain ⟨SZ, hSZ⟩ : ∃ SZ : Int, (X.size : Int) = SZ := ⟨_, rfl⟩
        rw [hSZ] at N c12 p4
        have p5 : 0 ≤ SZ := by omega
        clear hSZ
        go_wp2
        go_roundg (L - (k + 1))
        case measure => omega
        case rel => exact ⟨k + 1, tv2, by omega, by go_num, rfl, by rw [hst.out, hX]; exact hide N.out, hide (F2.out.setP _)⟩
    · have hwe : writeB es s = X := by
        rw [← hX]
        refine write_end (es := es) (s := s) (k := k) ?_
        have := HL.out
        by_cases e : k = es.length
        · exact Or.inl e
        · right
          rw [hX]
          exact fun q => hgo ⟨by omega, q⟩
      have HWE := hide hwe
      obtain ⟨g1, g2, g3⟩ := HGG.out
      have hGb : wr.heap[G]? = some (.cells #[.int .i64 0, .int .i64 0, .string ⟨#[]⟩] 39) := by
        rw [HF.out.block G (by omega) (fun e => hne e.symm) (fun e => by have := HOW.out G e; omega)]
        exact g1
      have z0 : wr.cell? ⟨G, 0, none⟩ = some (.int .i64 0) := Lib.cell_of_heap hGb 0
      have z1 : wr.cell? ⟨G, 1, none⟩ = some (.int .i64 0) := Lib.cell_of_heap hGb 1
      have z2 : wr.cell? ⟨G, 2, none⟩ = some (.string ⟨#[]⟩) := Lib.cell_of_heap hGb 2
      have y0 : wr.frozen? ⟨G, 0, none⟩ = false := frozen_of_row _ G 0 _ _ hGb
      have y1 : wr.frozen? ⟨G, 1, none⟩ = false := frozen_of_row _ G 1 _ _ hGb
      have y2 : wr.frozen? ⟨G, 2, none⟩ = false := frozen_of_row _ G 2 _ _ hGb
      have HFZ := hide (show Fr p tv tv1 w wr from HF0.out.trans HF.out)
      have HTG := hide (show tv1.ownBlock ≠ some G from fun e => by
        rcases HF.out.own with q | q
        · rw [q] at e; have := HOW.out G e; omega
        · have := q G e; omega)
      have HGW0 := hide (show w.heap.size ≤ G by omega)
      have hat : (if X.st.bad = 0 then 0 else (X.size : Int)) = atC X.st.bad X.size := rfl
      rw [hat] at c14
      obtain ⟨AT, hAT⟩ : ∃ AT : Int, atC X.st.bad X.size = AT := ⟨_, rfl⟩
      rw [hAT] at c14
      have HAT := hide hAT
      obtain ⟨CD, hCD⟩ : ∃ CD : Int, (X.st.bad : Int) = CD := ⟨_, rfl⟩
      rw [hCD] at c13
      have HCD := hide hCD
      have hno : (k : Int) < (L : Int) → (CD == 0) = false := fun q => by
        have : X.st.bad ≠ 0 := fun e => hgo ⟨by omega, e⟩
        simp; omega
      have hne2 : ¬ (G = p) := fun e => hne e.symm
      clear e1 e2 e3 e4 e5 e6 c12 hgood hgo hwe g1 g2 g3 hGb hat hAT hCD hX
      have fin : ∀ W', W' = ((wr.setCell ⟨G, 0, none⟩ (.int .i64 CD)).setCell ⟨G, 1, none⟩ (.int .i64 AT)).setCell ⟨G, 2, none⟩ (.string ⟨#[]⟩) → DWr w B p tv s es (.returned (fltV CD AT)) W' := fun W' hW => by
        subst hW
        refine ⟨tv1, ?_, ?_⟩
        · rw [HWE.out, HAT.out, HCD.out]
        rw [HWE.out]
        exact ⟨ ((HP.out.putNew hne HTG.out _).putNew hne HTG.out _).putNew hne HTG.out _, ((HFZ.out.putNew HGW0.out _).putNew HGW0.out _).putNew HGW0.out _⟩
      have FIN := hide fin
      clear fin
      by_cases hlt' : k < L
      · have p1 : (k : Int) < (L : Int) := by omega
        have p2 := hno p1
        clear hno
        go_wp2
        refine bodyPost_ret (v := fltV CD AT) (by rw [jresults_cell rfl]; simp only [fltV]; go_simp) rfl (FIN.out _ rfl)
      · have p1 : ¬ ((k : Int) < (L : Int)) := by omega
        clear hno
        go_wp2
        refine bodyPost_ret (v := fltV CD AT) (by rw [jresults_cell rfl]; simp only [fltV]; go_simp) rfl (FIN.out _ rfl)

end Go.Proofs.YtefmlajndillbaaGreatDoor
