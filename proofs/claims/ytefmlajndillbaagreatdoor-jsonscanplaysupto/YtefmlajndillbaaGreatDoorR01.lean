/- DnF, DnG, DnH, DnI, DnT -/
import Derived.Test.YtefmlajndillbaaGreatDoorDnE
import Derived.Test.YtefmlajndillbaaGreatDoorJsN
import Derived.Deep.RegionHeld3
namespace Go.Proofs.YtefmlajndillbaaGreatDoor
open Go.RowKit
set_option linter.unusedVariables false

/-- the document's scanner says what the program's does -/
def DS (w : World) (B p : Nat) (tv : Value) (s : Sc) : Prop :=
  ∃ es d, DcS w B p tv es d ∧ d.size = s.size ∧ d.code = s.st.bad ∧ d.at_ = (if s.st.bad = 0 then 0 else (s.size : Int)) ∧ d.opn = s.st.opn.map (fun c => c - 2) ∧ (s.st.bad = 0 → DRel s.md s.st d es s.size ∧ s.st.ends = endM s.md)
theorem DS.below {w w' : World} {B p : Nat} {tv : Value} {s : Sc} (h : DS w B p tv s) (hb : Below w.heap.size w w') : DS w' B p tv s := by
  obtain ⟨es, d, h1, h2⟩ := h
  exact ⟨es, d, h1.below hb, h2⟩
theorem DS.lt {w : World} {B p : Nat} {tv : Value} {s : Sc} (h : DS w B p tv s) : p < w.heap.size := by
  obtain ⟨es, d, h1, h2⟩ := h
  exact h1.lt
theorem DS.le {w : World} {B p : Nat} {tv : Value} {s : Sc} (h : DS w B p tv s) : B ≤ p := by
  obtain ⟨es, d, h1, h2⟩ := h
  exact h1.le
theorem DS.ownLt {w : World} {B p : Nat} {tv : Value} {s : Sc} (h : DS w B p tv s) : ∀ k, tv.ownBlock = some k → B ≤ k ∧ k < w.heap.size := by
  obtain ⟨es, d, h1, h2⟩ := h
  exact h1.ownLt
theorem own_block {w w' : World} {B : Nat} {E : TypeId} {v : Value} {n : Nat} {xs : List Value} (h : w.ownsRow B E 1 v n xs) (hb : ∀ g, v.ownBlock = some g → w'.heap[g]? = w.heap[g]?) : w'.ownsRow B E 1 v n xs := by
  refine ⟨h.1, ?_⟩
  rcases h.2 with e | ⟨g, cap, cur, e, e1, e2, e3⟩
  · exact Or.inl e
  · exact Or.inr ⟨g, cap, cur, e, e1, by rw [hb g (by rw [e]; rfl)]; exact e2, e3⟩
theorem DS.blocks {w w' : World} {B p : Nat} {tv : Value} {s : Sc} (h : DS w B p tv s) (hp : w'.heap[p]? = w.heap[p]?) (ho : ∀ g, tv.ownBlock = some g → w'.heap[g]? = w.heap[g]?) : DS w' B p tv s := by
  obtain ⟨es, d, h1, h2⟩ := h
  exact ⟨es, d, ⟨by rw [hp]; exact h1.blk, own_block h1.own ho, h1.le⟩, h2⟩
theorem ScP.blocks {w w' : World} {a : Nat → Addr} {B p : Nat} {ov : Value} {s : Sc} (h : ScP w a B p ov s) (hp : w'.heap[p]? = w.heap[p]?) (ho : ∀ g, ov.ownBlock = some g → w'.heap[g]? = w.heap[g]?) : ScP w' a B p ov s :=
  ⟨⟨by rw [hp]; exact h.sc.blk, own_block h.sc.own ho, h.sc.le⟩, h.good⟩
theorem DRel.ends {m : Md} {t : St} {d : Dc} {es : List Int} {k : Nat} (h : DRel m t d es k) (e : Bool) : DRel m { t with ends := e } d es k := by
  obtain ⟨n, h1, h2, h3, h4⟩ := h
  refine ⟨n, h1, ⟨h2.md, h2.op, h2.wd, h2.ky, h2.fe, h2.fk⟩, h3, fun e6 => ?_⟩
  obtain ⟨σ, g1, g2⟩ := h4 e6
  refine ⟨σ, ?_, g2⟩
  cases m <;> exact g1
theorem DRel.cells {m : Md} {t : St} {d d' : Dc} {es : List Int} {k : Nat} (h : DRel m t d es k) (e : d' = { d with size := d'.size, code := d'.code, at_ := d'.at_ }) : DRel m t d' es k := by
  rw [e]
  exact h
theorem DcS.f15 {w : World} {B p : Nat} {tv : Value} {es : List Int} {d : Dc} (H : DcS w B p tv es d) : DcS (w.setCell ⟨p, 15, none⟩ (.string ⟨#[]⟩)) B p tv es d := ⟨heap_setCell_same w p 15 _ _ _ H.blk, H.keepOwn _, H.le⟩
theorem dNew {w : World} : Calls Tryz.prog 7 #[] w fun e w' => e = .returned (.pointer (some ⟨w.heap.size, 0, none⟩)) ∧ DS w' w.heap.size w.heap.size (.slice none 0 0) sc0 ∧ Below w.heap.size w w' := by
  go_enter Tryz.func7, Tryz.ntmps7
  go_wp2
  go_ret
  refine ⟨rfl, ⟨[], ⟨0, [], 0, 0, 0, 0, 0, 0, false, [], 0, 0, 0⟩, ⟨heap_alloc_new w _, World.ownsRow_nil _ _ _ _, Nat.le_refl _⟩, rfl, rfl, rfl, rfl, fun _ => ⟨⟨⟨0, [], false, []⟩, ⟨rfl, rfl, rfl, rfl⟩, ⟨rfl, rfl, nofun, nofun, nofun, nofun⟩, fun _ => rfl, nofun⟩, rfl⟩⟩, (Below.refl _ _).alloc (Nat.le_refl _) _⟩
theorem dLen {w : World} {B p : Nat} {tv : Value} {s : Sc} (h : DS w B p tv s) : Calls Tryz.prog 18 #[.pointer (some ⟨p, 0, none⟩)] w fun e w' => e = .returned (.int .i64 s.size) ∧ w' = w := by
  obtain ⟨es, d, h1, h2, _⟩ := h
  have c12 := (dg_of h1.blk).c12
  rw [h2] at c12
  clear h1 h2
  generalize (s.size : Int) = sz at c12 ⊢
  go_enter Tryz.func18, Tryz.ntmps18
  go_wp2
  go_ret
  exact ⟨rfl, rfl⟩
theorem dDepth {w : World} {B p : Nat} {tv : Value} {s : Sc} (h : DS w B p tv s) : Calls Tryz.prog 20 #[.pointer (some ⟨p, 0, none⟩)] w fun e w' => e = .returned (.int .i64 (s.st.opn.length : Nat)) ∧ w' = w := by
  obtain ⟨es, d, h1, h2, h3, h4, h5, h6⟩ := h
  have c2 := (dg_of h1.blk).c2
  obtain ⟨sw, hsw⟩ : ∃ sw, strOfNums d.opn = sw := ⟨_, rfl⟩
  rw [hsw] at c2
  have hsz : sw.size = s.st.opn.length := by rw [← hsw, strOfNums_size, h5]; simp
  rw [← hsz]
  clear h1 h2 h3 h4 h5 h6 hsw hsz
  go_enter Tryz.func20, Tryz.ntmps20
  go_wp2
  go_ret
  exact ⟨rfl, rfl⟩
/-- what the document's calls tell -/
def fltV (c k : Int) : Value := .agg #[.int .i64 c, .int .i64 k, .string ⟨#[]⟩]
def atC (n : Nat) (k : Nat) : Int := if n = 0 then 0 else (k : Int)
theorem endM_yes {m : Md} (h : endM m = true) : dMd m = 5 ∨ dMd m = 9 ∨ dMd m = 10 ∨ dMd m = 12 ∨ dMd m = 15 := by
  cases m <;> simp [endM, dMd] at h ⊢
theorem endM_no {m : Md} (h : endM m = false) : dMd m ≠ 5 ∧ dMd m ≠ 9 ∧ dMd m ≠ 10 ∧ dMd m ≠ 12 ∧ dMd m ≠ 15 := by
  cases m <;> simp [endM, dMd] at h ⊢
set_option maxRecDepth 100000 in
set_option maxHeartbeats 2000000 in
theorem dcomplete {w : World} {B p : Nat} {tv : Value} {s : Sc} (h : DS w B p tv s) (hb : s.st.bad = 0) : Calls Tryz.prog 36 #[.pointer (some ⟨p, 0, none⟩)] w fun e w' => e = .returned (.bool (wholeB' s.st)) ∧ w' = w := by
  obtain ⟨es, d, h1, h2, h3, h4, h5, h6⟩ := h
  obtain ⟨⟨n, r1, r2, r3, r4⟩, h7⟩ := h6 hb
  have c1 := (dg_of h1.blk).c1
  have c2 := (dg_of h1.blk).c2
  rw [r1.1, r2.md] at c1
  rw [h5] at c2
  unfold wholeB'
  rw [h7]
  cases ho : s.st.opn with
  | nil =>
    rw [ho, show strOfNums (List.map (fun c => c - 2) []) = ⟨#[]⟩ from rfl] at c2
    clear h1 h2 h3 h4 h5 h6 h7 r1 r2 r3 r4 ho hb
    cases he : endM s.md with
    | true =>
      rcases endM_yes he with e | e | e | e | e
      all_goals rw [e] at c1
      all_goals clear e he
      all_goals go_enter Tryz.func36, Tryz.ntmps36
      all_goals go_wp2
      all_goals go_ret
      all_goals exact ⟨rfl, rfl⟩
    | false =>
      obtain ⟨g5, g9, g10, g12, g15⟩ := endM_no he
      obtain ⟨M, hM⟩ : ∃ M : Int, ((dMd s.md : Nat) : Int) = M := ⟨_, rfl⟩
      rw [hM] at c1
      have b5 : (M == 5) = false := by simp; omega
      have b9 : (M == 9) = false := by simp; omega
      have b10 : (M == 10) = false := by simp; omega
      have b12 : (M == 12) = false := by simp; omega
      have b15 : (M == 15) = false := by simp; omega
      clear g5 g9 g10 g12 g15 hM he
      go_enter Tryz.func36, Tryz.ntmps36
      go_wp2
      go_ret
      exact ⟨rfl, rfl⟩
  | cons x l =>
    rw [ho] at c2
    have hne : (strOfNums (List.map (fun c => c - 2) (x :: l))).toList.isEmpty = false := jtxt_full (by rw [strOfNums_size]; simp)
    generalize strOfNums (List.map (fun c => c - 2) (x :: l)) = sw at c2 hne
    have e : (endM s.md && (x :: l).isEmpty) = false := by simp
    rw [e]
    clear h1 h2 h3 h4 h5 h6 h7 r1 r2 r3 r4 ho hb e
    generalize ((dMd s.md : Nat) : Int) = M at c1
    go_enter Tryz.func36, Tryz.ntmps36
    go_wp2
    go_ret
    exact ⟨rfl, rfl⟩
set_option maxRecDepth 100000 in
set_option maxHeartbeats 2000000 in
theorem dClose {w : World} {B p : Nat} {tv : Value} {s : Sc} (h : DS w B p tv s) (hw : s.st.bad ≤ 11) : Calls Tryz.prog 16 #[.pointer (some ⟨p, 0, none⟩)] w fun e w' => e = .returned (fltV (codeC s) (atC (codeC s) s.size)) ∧ Below w.heap.size w w' := by
  have hlt := h.lt
  have hne : ¬ (p = w.heap.size) := by omega
  have hbl : Below w.heap.size w (w.alloc (.cells #[.int .i64 0, .int .i64 0, .string ⟨#[]⟩] 39)) := (Below.refl _ _).alloc (Nat.le_refl _) _
  have CC := hide (fun hb => dcomplete (h.below hbl) hb)
  have HBL := hide hbl
  obtain ⟨es, d, h1, h2, h3, h4, h5, h6⟩ := h
  have c0 := (dg_of h1.blk).c0
  have c12 := (dg_of h1.blk).c12
  have c13 := (dg_of h1.blk).c13
  have c14 := (dg_of h1.blk).c14
  have c15 := (dg_of h1.blk).c15
  rw [h2] at c12
  rw [h3] at c13
  rw [h4] at c14
  clear h1 h2 h3 h4 h5 h6 hbl
  by_cases hb : s.st.bad = 0
  · have C := hide (CC.out hb)
    rw [hb] at c13 c14
    simp only [if_true] at c14
    obtain ⟨SZ, hSZ⟩ : ∃ SZ : Int, (s.size : Int) = SZ := ⟨_, rfl⟩
    rw [hSZ] at c12
    cases hwh : wholeB' s.st with
    | true =>
      have E : codeC s = 0 := by simp [codeC, hb, hwh]
      rw [E, show atC 0 s.size = 0 from rfl]
      rw [hwh] at C
      clear E CC hb hSZ hwh
      go_enter Tryz.func16, Tryz.ntmps16
      go_wp2_with fail
      refine C.out.mono ?_
      rintro e w1 ⟨rfl, rfl⟩
      clear C
      go_wp2
      refine bodyPost_ret (v := fltV 0 0) (by rw [jresults_cell rfl]; simp only [fltV]; go_simp) rfl ⟨rfl, (Below.refl _ _).alloc (Nat.le_refl _) _⟩
    | false =>
      have E : codeC s = 3 := by simp [codeC, hb, hwh]
      rw [E, show atC 3 s.size = SZ by simp [atC, hSZ]]
      rw [hwh] at C
      clear E CC hb hSZ hwh
      go_enter Tryz.func16, Tryz.ntmps16
      go_wp2_with fail
      refine C.out.mono ?_
      rintro e w1 ⟨rfl, rfl⟩
      clear C
      go_wp2
      refine bodyPost_ret (v := fltV 3 SZ) (by rw [jresults_cell rfl]; simp only [fltV]; go_simp) rfl ⟨rfl, (Below.refl _ _).alloc (Nat.le_refl _) _⟩
  · have E : codeC s = s.st.bad := by simp [codeC, hb]
    rw [E]
    rw [if_neg hb] at c14
    have e2 : atC s.st.bad s.size = (s.size : Int) := by simp [atC, hb]
    rw [e2]
    obtain ⟨SZ, hSZ⟩ : ∃ SZ : Int, (s.size : Int) = SZ := ⟨_, rfl⟩
    obtain ⟨CD, hCD⟩ : ∃ CD : Int, (s.st.bad : Int) = CD := ⟨_, rfl⟩
    rw [hSZ] at c12 c14 ⊢
    rw [hCD] at c13 ⊢
    have hcd : (CD == 0) = false := by simp; omega
    clear E CC hb hSZ hCD e2 hw
    go_enter Tryz.func16, Tryz.ntmps16
    go_wp2
    refine bodyPost_ret (v := fltV CD SZ) (by rw [jresults_cell rfl]; simp only [fltV]; go_simp) rfl ⟨rfl, (Below.refl _ _).alloc (Nat.le_refl _) _⟩

end Go.Proofs.YtefmlajndillbaaGreatDoor

namespace Go.Proofs.YtefmlajndillbaaGreatDoor
open Go.RowKit
set_option linter.unusedVariables false

theorem Fr.putNew {p G i : Nat} {o1 o2 : Value} {w w' : World} (h : Fr p o1 o2 w w') (hG : w.heap.size ≤ G) (u : Value) : Fr p o1 o2 w (w'.setCell ⟨G, i, Option.none⟩ u) :=
  ⟨h.os, h.tape, h.output, by have := h.size; simpa [World.setCell] using this, fun k hk hp ho => (Below.heap_setCell _ _ _ _ (show k ≠ G by omega)).trans (h.block k hk hp ho), h.own⟩
theorem DS.putNew {w : World} {B p G i : Nat} {tv : Value} {s : Sc} (h : DS w B p tv s) (hp : p ≠ G) (ho : tv.ownBlock ≠ some G) (u : Value) : DS (w.setCell ⟨G, i, Option.none⟩ u) B p tv s :=
  h.blocks (Below.heap_setCell _ _ _ _ hp) (fun g hg => Below.heap_setCell _ _ _ _ (fun e => ho (by rw [← (show g = G from e)]; exact hg)))
/-- behind a byte that is wrong -/
theorem ds_bad {w w2 : World} {B p : Nat} {tv2 : Value} {es2 : List Int} {d d2 : Dc} {S : Sc} {u : St} {code : Nat} {c : Int} (q1 : DcS w2 B p tv2 es2 d2) (hz : d2.size = S.size) (s1 : stepB S.md c { S.st with ends := false } = (none, u)) (s2 : code = (if u.bad = 0 then 3 else u.bad)) (s3 : code ≠ 0) (s4 : d2.opn = S.st.opn.map (fun c => c - 2)) (s5 : u.opn = S.st.opn) :
    DS (((w2.setCell ⟨p, 13, none⟩ (.int .i64 code)).setCell ⟨p, 14, none⟩ (.int .i64 S.size)).setCell ⟨p, 15, none⟩ (.string ⟨#[]⟩)) B p tv2 (takeB c S) := by
  have e : takeB c S = ⟨S.md, S.size, { u with bad := code }⟩ := by unfold takeB; rw [s1, s2]
  rw [e]
  refine ⟨es2, _, ((q1.code code).at_ S.size).f15, hz, rfl, ?_, ?_, fun h => absurd h s3⟩
  · rw [if_neg s3]
  · show d2.opn = u.opn.map _
    rw [s4, s5]
/-- behind a byte that goes on -/
theorem ds_good {w w2 : World} {B p : Nat} {tv2 : Value} {es2 : List Int} {d d2 : Dc} {S : Sc} {u : St} {m' : Md} {c : Int} (q1 : DcS w2 B p tv2 es2 d2) (hz : d2.size = S.size) (hc : d2.code = 0) (ha : d2.at_ = 0) (hg : Good S.md { S.st with ends := false }) (h0 : 0 ≤ c) (h1 : c < 256) (hb : S.st.bad = 0) (s1 : stepB S.md c { S.st with ends := false } = (some m', u)) (s3 : DRel m' u d2 es2 (S.size + 1)) (s4 : u.ends = endM m') :
    DS (w2.setCell ⟨p, 12, none⟩ (.int .i64 ((S.size : Int) + 1))) B p tv2 (takeB c S) := by
  have e : takeB c S = ⟨m', S.size + 1, u⟩ := by unfold takeB; rw [s1]
  have hu : u.bad = 0 := by have := gr_step hg c h0 h1; rw [s1] at this; exact this.2.trans hb
  rw [e]
  refine ⟨es2, _, q1.size _, by simp, by show d2.code = (u.bad : Int); rw [hc, hu]; rfl, by show d2.at_ = if u.bad = 0 then 0 else _; rw [if_pos hu, ha], ?_, fun _ => ⟨?_, s4⟩⟩
  · obtain ⟨n, g1, g2, _⟩ := s3
    show d2.opn = _
    rw [g1.2.1, g2.op]
  · exact s3.cells rfl
/-- what Write leaves -/
def DWr (w : World) (B p : Nat) (tv : Value) (s : Sc) (es : List Int) (e : Ending) (w' : World) : Prop :=
  ∃ tv', e = .returned (fltV (writeB es s).st.bad (atC (writeB es s).st.bad (writeB es s).size)) ∧ DS w' B p tv' (writeB es s) ∧ Fr p tv tv' w w'
set_option maxRecDepth 100000 in
set_option maxHeartbeats 4000000 in
theorem dWrite {w : World} {B p : Nat} {tv : Value} {s : Sc} {es : List Int} {ch : ByteArray} (h : DS w B p tv s) (hg : GoodS s) (hb : uByt es) (hch : ch = strOfNums es) (hsz : s.size + es.length + 4 ≤ 140737488355328) :
    Calls Tryz.prog 14 #[.pointer (some ⟨p, 0, none⟩), .string ch] w (DWr w B p tv s es) := by
  have hlt := h.lt
  have hne : ¬ (p = w.heap.size) := by omega
  have hbl : Below w.heap.size w (w.alloc (.cells #[.int .i64 0, .int .i64 0, .string ⟨#[]⟩] 39)) := (Below.refl _ _).alloc (Nat.le_refl _) _
  have hcs : ch.size = es.length := by rw [hch, strOfNums_size]
  have Hix := hide (show ∀ q (g : q < ch.size), (((ch[q]'g).toNat : Nat) : Int) = Nt.lb es q from fun q g => by subst hch; exact utxt_at g hb)
  have HBy := hide (show ∀ q, q < es.length → 0 ≤ Nt.lb es q ∧ Nt.lb es q < 256 from fun q g => by have := hb _ (List.getElem_mem g); simpa [Nt.lb, g] using this)
  have HSZ := hide hsz
  have HGW := hide (show ∀ k, GoodS (writeB (es.take k) s) from fun k => good_write hg _ (fun x hx => hb x (List.mem_of_mem_take hx)))
  have HH := hide (h.below hbl)
  have HF0 := hide (Fr.of_below (p := p) (ov := tv) hbl)
  have HOW := hide (show ∀ k, tv.ownBlock = some k → k < w.heap.size from fun k e => (h.ownLt k e).2)
  have c0 : w.cell? ⟨p, 0, none⟩ = some (.bool true) := by obtain ⟨es1, d, h1, _⟩ := h; exact (dg_of h1.blk).c0
  obtain ⟨L, hL⟩ : ∃ L, es.length = L := ⟨_, rfl⟩
  have HL := hide hL
  rw [hL] at hcs
  clear h hg hb hch hsz hbl hL
  go_enter Tryz.func14, Tryz.ntmps14
  go_wp2
  obtain ⟨G, hG⟩ : ∃ G, w.heap.size = G := ⟨_, rfl⟩
  rw [hG]
  rw [hG] at hlt hne
  have hGB : (w.alloc (.cells #[.int .i64 0, .int .i64 0, .string ⟨#[]⟩] 39)).heap[G]? = some (.cells #[.int .i64 0, .int .i64 0, .string ⟨#[]⟩] 39) := by rw [← hG]; exact heap_alloc_new w _
  have hsW : (w.alloc (.cells #[.int .i64 0, .int .i64 0, .string ⟨#[]⟩] 39)).heap.size = G + 1 := by rw [← hG]; simp
  obtain ⟨W0, hW0⟩ : ∃ W0, w.alloc (.cells #[.int .i64 0, .int .i64 0, .string ⟨#[]⟩] 39) = W0 := ⟨_, rfl⟩
  rw [hW0] at HH HF0 hGB hsW ⊢
  have HGG := hide (show _ ∧ _ ∧ _ from ⟨hGB, hsW, hG⟩)
  clear hGB hsW hG hW0 c0
  go_loopg [5] L (fun c i wr => ∃ (k : Nat) (tv1 : Value), k ≤ L ∧ i = .int .i64 k ∧ c = L - k ∧ Hid (DS wr B p tv1 (writeB (es.take k) s)) ∧ Hid (Fr p tv tv1 W0 wr))
  case atStart => exact ⟨0, tv, by omega, rfl, by omega, hide HH.out, hide (Fr.refl _ _ _)⟩
  case round =>
    obtain ⟨k, tv1, hk, rfl, hc, HP, HF⟩ := hrel
    obtain ⟨es1, d, e1, e2, e3, e4, e5, e6⟩ := HP.out
    have c12 := (dg_of e1.blk).c12
    have c13 := (dg_of e1.blk).c13
    have c14 := (dg_of e1.blk).c14
    have c15 := (dg_of e1.blk).c15
    rw [e2] at c12
    rw [e3] at c13
    rw [e4] at c14
    obtain ⟨X, hX⟩ : ∃ X, writeB (es.take k) s = X := ⟨_, rfl⟩
    have hgood := HGW.out k
    rw [hX] at HP e2 e3 e4 e5 e6 c12 c13 c14 hgood
    by_cases hgo : k < L ∧ X.st.bad = 0
    · obtain ⟨hlt', hbad⟩ := hgo
      have p1 : (k : Int) < (L : Int) := by omega
      have p2 : (0 : Int) ≤ (k : Int) := by omega
      have hw := write_size (es.take k) s
      rw [hX] at hw
      have hln : (es.take k).length ≤ k := by simp; omega
      have h63 := HSZ.out
      have hLL := HL.out
      have hxz : X.size + 4 ≤ 140737488355328 := by omega
      have hcb := HBy.out k (by omega)
      have hkc : k < ch.size := by omega
      have hix := Hix.out k hkc
      have hst := hide (write_step (s := s) (by omega : k < es.length) (by rw [hX]; exact hbad))
      have hgf := good_false (hgood.ok hbad)
      have CT := hide (dstep (c := Nt.lb es k) e1 ((e6 hbad).1.ends false) hgf hxz hbad rfl hcb.1 hcb.2)
      rw [hbad] at c13 c14 e4
      rw [if_pos rfl] at c14 e4
      have HD := hide (show _ ∧ _ ∧ _ ∧ _ ∧ _ ∧ _ from ⟨e2, e3, e4, hbad, hgf, hcb⟩)
      have p3 : (k : Int) + 1 ≤ 9223372036854775807 := by omega
      have p4 : (X.size : Int) + 1 ≤ 9223372036854775807 := by omega
      clear hw hln h63 hLL hgood hgf hcb e1 e2 e3 e4 e5 e6 c12 c14 c15 hxz hbad
      obtain ⟨c, hcc⟩ : ∃ c, Nt.lb es k = c := ⟨_, rfl⟩
      rw [hcc] at hix CT hst HD
      clear hcc
      go_wp2_with fail
      refine CT.out.mono ?_
      rintro e w2 ⟨code, tv2, es2, d2, rfl, q1, q2, q3, q4, q5, q6⟩
      have F2 := hide (HF.out.trans q2)
      clear CT c13 q2
      rcases q6 with ⟨u, s1, s2, s3, s4, s5⟩ | ⟨m', u, s1, s2, s3, s4⟩
      · have c12 := (dg_of q1.blk).c12
        have c13 := (dg_of q1.blk).c13
        have c14 := (dg_of q1.blk).c14
        have c15 := (dg_of q1.blk).c15
        have f13 := q1.frz 13
        have f14 := q1.frz 14
        have f15 := q1.frz 15
        rw [q3, HD.out.1] at c12
        have N := hide (ds_bad (w := w2) (d := d2) q1 (by rw [q3, HD.out.1]) s1 s2 s3 s4 s5)
        have hcd : ((code : Int) != 0) = true := by simp; exact s3
        clear q1 q3 q4 q5 s1 s2 s3 s4 s5 HD
        obtain ⟨CD, hCD⟩ : ∃ CD : Int, (code : Int) = CD := ⟨_, rfl⟩
        obtain ⟨SZ, hSZ⟩ : ∃ SZ : Int, (X.size : Int) = SZ := ⟨_, rfl⟩
        rw [hCD] at N hcd ⊢
        rw [hSZ] at N c12
        clear hCD hSZ p4
        go_wp2
        go_roundg (L - (k + 1))
        case measure => omega
        case rel => exact ⟨k + 1, tv2, by omega, by go_num, rfl, by rw [hst.out, hX]; exact hide N.out, hide (((F2.out.setP _).setP _).setP _)⟩
      · subst s2
        have c12 := (dg_of q1.blk).c12
        have f12 := q1.frz 12
        rw [q3, HD.out.1] at c12
        have N := hide (ds_good (w := w2) (d := d2) q1 (by rw [q3, HD.out.1]) (by rw [q4, HD.out.2.1, HD.out.2.2.2.1]; rfl) (by rw [q5, HD.out.2.2.1]) HD.out.2.2.2.2.1 HD.out.2.2.2.2.2.1 HD.out.2.2.2.2.2.2 HD.out.2.2.2.1 s1 s3 s4)
        clear q1 q3 q4 q5 s1 s3 s4 HD
        obtain ⟨SZ, hSZ⟩ : ∃ SZ : Int, (X.size : Int) = SZ := ⟨_, rfl⟩
        rw [hSZ] at N c12 p4
        have p5 : 0 ≤ SZ := by omega
        clear hSZ
        go_wp2
        go_roundg (L - (k + 1))
        case measure => omega
        case rel => exact ⟨k + 1, tv2, by omega, by go_num, rfl, by rw [hst.out, hX]; exact hide N.out, hide (F2.out.setP _)⟩
    · have hwe : writeB es s = X := by
        rw [← hX]
        refine write_end (es := es) (s := s) (k := k) ?_
        have := HL.out
        by_cases e : k = es.length
        · exact Or.inl e
        · right
          rw [hX]
          exact fun q => hgo ⟨by omega, q⟩
      have HWE := hide hwe
      obtain ⟨g1, g2, g3⟩ := HGG.out
      have hGb : wr.heap[G]? = some (.cells #[.int .i64 0, .int .i64 0, .string ⟨#[]⟩] 39) := by
        rw [HF.out.block G (by omega) (fun e => hne e.symm) (fun e => by have := HOW.out G e; omega)]
        exact g1
      have z0 : wr.cell? ⟨G, 0, none⟩ = some (.int .i64 0) := Lib.cell_of_heap hGb 0
      have z1 : wr.cell? ⟨G, 1, none⟩ = some (.int .i64 0) := Lib.cell_of_heap hGb 1
      have z2 : wr.cell? ⟨G, 2, none⟩ = some (.string ⟨#[]⟩) := Lib.cell_of_heap hGb 2
      have y0 : wr.frozen? ⟨G, 0, none⟩ = false := frozen_of_row _ G 0 _ _ hGb
      have y1 : wr.frozen? ⟨G, 1, none⟩ = false := frozen_of_row _ G 1 _ _ hGb
      have y2 : wr.frozen? ⟨G, 2, none⟩ = false := frozen_of_row _ G 2 _ _ hGb
      have HFZ := hide (show Fr p tv tv1 w wr from HF0.out.trans HF.out)
      have HTG := hide (show tv1.ownBlock ≠ some G from fun e => by
        rcases HF.out.own with q | q
        · rw [q] at e; have := HOW.out G e; omega
        · have := q G e; omega)
      have HGW0 := hide (show w.heap.size ≤ G by omega)
      have hat : (if X.st.bad = 0 then 0 else (X.size : Int)) = atC X.st.bad X.size := rfl
      rw [hat] at c14
      obtain ⟨AT, hAT⟩ : ∃ AT : Int, atC X.st.bad X.size = AT := ⟨_, rfl⟩
      rw [hAT] at c14
      have HAT := hide hAT
      obtain ⟨CD, hCD⟩ : ∃ CD : Int, (X.st.bad : Int) = CD := ⟨_, rfl⟩
      rw [hCD] at c13
      have HCD := hide hCD
      have hno : (k : Int) < (L : Int) → (CD == 0) = false := fun q => by
        have : X.st.bad ≠ 0 := fun e => hgo ⟨by omega, e⟩
        simp; omega
      have hne2 : ¬ (G = p) := fun e => hne e.symm
      clear e1 e2 e3 e4 e5 e6 c12 hgood hgo hwe g1 g2 g3 hGb hat hAT hCD hX
      have fin : ∀ W', W' = ((wr.setCell ⟨G, 0, none⟩ (.int .i64 CD)).setCell ⟨G, 1, none⟩ (.int .i64 AT)).setCell ⟨G, 2, none⟩ (.string ⟨#[]⟩) → DWr w B p tv s es (.returned (fltV CD AT)) W' := fun W' hW => by
        subst hW
        refine ⟨tv1, ?_, ?_⟩
        · rw [HWE.out, HAT.out, HCD.out]
        rw [HWE.out]
        exact ⟨ ((HP.out.putNew hne HTG.out _).putNew hne HTG.out _).putNew hne HTG.out _, ((HFZ.out.putNew HGW0.out _).putNew HGW0.out _).putNew HGW0.out _⟩
      have FIN := hide fin
      clear fin
      by_cases hlt' : k < L
      · have p1 : (k : Int) < (L : Int) := by omega
        have p2 := hno p1
        clear hno
        go_wp2
        refine bodyPost_ret (v := fltV CD AT) (by rw [jresults_cell rfl]; simp only [fltV]; go_simp) rfl (FIN.out _ rfl)
      · have p1 : ¬ ((k : Int) < (L : Int)) := by omega
        clear hno
        go_wp2
        refine bodyPost_ret (v := fltV CD AT) (by rw [jresults_cell rfl]; simp only [fltV]; go_simp) rfl (FIN.out _ rfl)

end Go.Proofs.YtefmlajndillbaaGreatDoor

namespace Go.Proofs.YtefmlajndillbaaGreatDoor
open Go.RowKit
set_option linter.unusedVariables false

theorem cell_block {w w' : World} {b : Nat} (h : w'.heap[b]? = w.heap[b]?) (i : Nat) : w'.cell? ⟨b, i, none⟩ = w.cell? ⟨b, i, none⟩ := by
  unfold World.cell?
  simp only [h]
/-- what a call on a place leaves: its own blocks alone turn -/
structure Fb (p r : Nat) (ov ov' tv tv' : Value) (w w' : World) : Prop where
  os : w'.os = w.os
  tape : w'.tape = w.tape
  output : w'.output = w.output
  size : w.heap.size ≤ w'.heap.size
  block : ∀ k, k < w.heap.size → k ≠ p → k ≠ r → ov.ownBlock ≠ some k → tv.ownBlock ≠ some k → w'.heap[k]? = w.heap[k]?
  o1 : ov'.ownBlock = ov.ownBlock ∨ ∀ k, ov'.ownBlock = some k → w.heap.size ≤ k
  o2 : tv'.ownBlock = tv.ownBlock ∨ ∀ k, tv'.ownBlock = some k → w.heap.size ≤ k
theorem Fb.below {p r : Nat} {ov tv : Value} {w w' : World} (h : Below w.heap.size w w') : Fb p r ov ov tv tv w w' :=
  ⟨h.os, h.tape, h.output, h.size, fun k hk _ _ _ _ => h.block k hk, Or.inl rfl, Or.inl rfl⟩
theorem Fb.trans {p r : Nat} {o1 o2 o3 t1 t2 t3 : Value} {a b c : World} (h : Fb p r o1 o2 t1 t2 a b) (k : Fb p r o2 o3 t2 t3 b c) : Fb p r o1 o3 t1 t3 a c := by
  refine ⟨k.os.trans h.os, k.tape.trans h.tape, k.output.trans h.output, Nat.le_trans h.size k.size, fun i hi h1 h2 h3 h4 => ?_, ?_, ?_⟩
  · rw [k.block i (Nat.lt_of_lt_of_le hi h.size) h1 h2 ?_ ?_, h.block i hi h1 h2 h3 h4]
    · rcases h.o1 with e | e
      · rw [e]; exact h3
      · intro g; have := e i g; omega
    · rcases h.o2 with e | e
      · rw [e]; exact h4
      · intro g; have := e i g; omega
  · rcases k.o1 with e | e
    · rw [e]; exact h.o1
    · exact Or.inr fun i g => Nat.le_trans h.size (e i g)
  · rcases k.o2 with e | e
    · rw [e]; exact h.o2
    · exact Or.inr fun i g => Nat.le_trans h.size (e i g)
theorem Fb.ofT {p r : Nat} {ov ov' tv : Value} {w w' : World} (h : Fr p ov ov' w w') : Fb p r ov ov' tv tv w w' :=
  ⟨h.os, h.tape, h.output, h.size, fun k hk h1 _ h3 _ => h.block k hk h1 h3, h.own, Or.inl rfl⟩
theorem Fb.ofR {p r : Nat} {ov tv tv' : Value} {w w' : World} (h : Fr r tv tv' w w') : Fb p r ov ov tv tv' w w' :=
  ⟨h.os, h.tape, h.output, h.size, fun k hk _ h2 _ h4 => h.block k hk h2 h4, Or.inl rfl, h.own⟩
/-- a place: the program's scanner beside the document's -/
structure Pl (w : World) (a : Nat → Addr) (B bp of p r : Nat) (ov tv : Value) (s : Sc) : Prop where
  ts : ScP w a B p ov s
  rs : DS w B r tv s
  c0 : w.cell? ⟨bp, of, none⟩ = some (.pointer (some ⟨p, 0, none⟩))
  c1 : w.cell? ⟨bp, of + 1, none⟩ = some (.pointer (some ⟨r, 0, none⟩))
  lt : bp < w.heap.size
  ne : p ≠ r ∧ bp ≠ p ∧ bp ≠ r
  ap : ∀ g, ov.ownBlock = some g → tv.ownBlock ≠ some g ∧ g ≠ bp ∧ g ≠ r
  ar : ∀ g, tv.ownBlock = some g → g ≠ bp ∧ g ≠ p
theorem Pl.below {w w' : World} {a : Nat → Addr} {B bp of p r : Nat} {ov tv : Value} {s : Sc} (h : Pl w a B bp of p r ov tv s) (hb : Below w.heap.size w w') : Pl w' a B bp of p r ov tv s :=
  ⟨h.ts.below hb, h.rs.below hb, by rw [cell_block (hb.block _ h.lt)]; exact h.c0, by rw [cell_block (hb.block _ h.lt)]; exact h.c1, Nat.lt_of_lt_of_le h.lt hb.size, h.ne, h.ap, h.ar⟩
theorem Pl.toBelow {w w' : World} {a : Nat → Addr} {B bp of p r : Nat} {ov tv ov' tv' : Value} {s : Sc} (h : Pl w a B bp of p r ov tv s) (f : Fb p r ov ov' tv tv' w w') : Below B w w' :=
  ⟨f.os, f.tape, f.output, f.size, fun k hk => by
    have h1 := h.ts.sc.le
    have h2 := h.rs.le
    have h3 := h.ts.sc.lt
    refine f.block k (by omega) (by omega) (by omega) (fun e => ?_) (fun e => ?_)
    · have := (h.ts.sc.ownLt k e).1; omega
    · have := (h.rs.ownLt k e).1; omega⟩
/-- behind the program's Write -/
theorem Pl.wrT {w w' : World} {a : Nat → Addr} {B bp of p r : Nat} {ov ov' tv : Value} {s s' : Sc} (h : Pl w a B bp of p r ov tv s) (f : Fr p ov ov' w w') : DS w' B r tv s ∧ w'.cell? ⟨bp, of, none⟩ = some (.pointer (some ⟨p, 0, none⟩)) ∧ w'.cell? ⟨bp, of + 1, none⟩ = some (.pointer (some ⟨r, 0, none⟩)) := by
  have hb : w'.heap[bp]? = w.heap[bp]? := f.block bp h.lt h.ne.2.1 (fun e => (h.ap bp e).2.1 rfl)
  refine ⟨h.rs.blocks (f.block r h.rs.lt (fun e => h.ne.1 e.symm) (fun e => (h.ap r e).2.2 rfl)) (fun g hg => f.block g (h.rs.ownLt g hg).2 (h.ar g hg).2 (fun e => (h.ap g e).1 hg)), ?_, ?_⟩
  · rw [cell_block hb]; exact h.c0
  · rw [cell_block hb]; exact h.c1
/-- behind both -/
theorem Pl.wrR {w w' w'' : World} {a : Nat → Addr} {B bp of p r : Nat} {ov ov' tv tv' : Value} {s s' : Sc} (h : Pl w a B bp of p r ov tv s) (f : Fr p ov ov' w w') (ht : ScP w' a B p ov' s') (g : Fr r tv tv' w' w'') (hr : DS w'' B r tv' s') : Pl w'' a B bp of p r ov' tv' s' := by
  obtain ⟨h1, h2, h3⟩ := h.wrT (s' := s') f
  have hbl : bp < w'.heap.size := Nat.lt_of_lt_of_le h.lt f.size
  have hb : w''.heap[bp]? = w'.heap[bp]? := g.block bp hbl h.ne.2.2 (fun e => (h.ar bp e).1 rfl)
  have hov : ∀ k, ov'.ownBlock = some k → k ≠ r ∧ tv.ownBlock ≠ some k ∧ k ≠ bp := fun k e => by
    rcases f.own with q | q
    · rw [q] at e; exact ⟨(h.ap k e).2.2, (h.ap k e).1, (h.ap k e).2.1⟩
    · have := q k e
      have h4 := h.rs.lt
      have h5 := h.lt
      exact ⟨by omega, fun e2 => by have := (h.rs.ownLt k e2).2; omega, by omega⟩
  refine ⟨ht.blocks (g.block p ht.sc.lt h.ne.1 (fun e => (h.ar p e).2 rfl)) (fun k e => g.block k (ht.sc.ownLt k e).2 (hov k e).1 (hov k e).2.1), hr, by rw [cell_block hb]; exact h2, by rw [cell_block hb]; exact h3, Nat.lt_of_lt_of_le hbl g.size, h.ne, fun k e => ⟨fun e2 => ?_, (hov k e).2.2, (hov k e).1⟩, fun k e => ?_⟩
  · rcases g.own with q | q
    · rw [q] at e2; exact (hov k e).2.1 e2
    · have := q k e2
      have := (ht.sc.ownLt k e).2
      omega
  · rcases g.own with q | q
    · rw [q] at e; exact h.ar k e
    · have := q k e
      have h4 := ht.sc.lt
      exact ⟨by omega, by omega⟩
theorem tl_fr {w w' : World} {a : Nat → Addr} {L n r : Nat} {k : Int} {v tv tv' : Value} (h : Tl w a L n k v) (f : Fr r tv tv' w w') (hr : r < L) (ho : ∀ g, tv.ownBlock = some g → g < L) : Tl w' a L n k v := by
  rcases h with h | ⟨m, g, h1, h2, h3, h4, h5⟩
  · exact Or.inl h
  · refine Or.inr ⟨m, g, h1, h2, h3, h4, ?_⟩
    unfold FltAt at h5 ⊢
    rw [f.block g (Array.getElem?_eq_some_iff.1 h5).1 (by omega) (fun e => by have := ho g e; omega)]
    exact h5
theorem isat_nil {w : World} {z : Int} : Calls Tryz.prog 21 #[.nilIface, .int .i64 0, .int .i64 z] w fun e w' => e = .returned (.bool true) ∧ w' = w := by
  go_enter Tryz.func21, Tryz.ntmps21
  go_wp2
  go_ret
  exact ⟨rfl, rfl⟩
/-- an error that is told, against the document's -/
theorem pfits {w : World} {a : Nat → Addr} {L n k : Nat} {v : Value} (h : Tl w a L n k v) (hn : n = 0 ∨ n = 3 ∨ n = 5) (hS : Snt w a) (hH : Hnd w) :
    Calls Tryz.prog 12 #[v, fltV n (atC n k)] w fun e w' => e = .returned (.bool true) ∧ Below w.heap.size w w' := by
  have hbl : ∀ c z : Int, Below w.heap.size w (w.alloc (.cells #[.int .i64 c, .int .i64 z, .string ⟨#[]⟩] 39)) := fun c z => (Below.refl _ _).alloc (Nat.le_refl _) _
  by_cases h0 : n = 0
  · subst h0
    rcases h with ⟨_, rfl⟩ | ⟨m, g, h1, _⟩
    · have C := hide (isat_nil (w := w.alloc (.cells #[.int .i64 0, .int .i64 0, .string ⟨#[]⟩] 39)) (z := 0))
      have HB := hide (hbl 0 0)
      have e : fltV ((0 : Nat) : Int) (atC 0 k) = .agg #[.int .i64 0, .int .i64 0, .string ⟨#[]⟩] := rfl
      rw [e]
      clear e hbl hS hH
      go_enter Tryz.func12, Tryz.ntmps12
      go_wp2_with fail
      refine C.out.mono ?_
      rintro e w1 ⟨rfl, rfl⟩
      clear C
      go_wp2
      go_ret
      exact ⟨rfl, HB.out⟩
    · omega
  · have e : fltV (n : Int) (atC n k) = .agg #[.int .i64 (n : Int), .int .i64 (k : Int), .string ⟨#[]⟩] := by simp [fltV, atC, h0]
    rw [e]
    have HB := hide (hbl n k)
    have C := hide (jisat n (k : Int) (h.below HB.out) (by omega) h0 (by omega) (hS.below HB.out) (hH.below HB.out))
    simp only [decide_true, Bool.and_true] at C
    obtain ⟨N, hN⟩ : ∃ N : Int, (n : Int) = N := ⟨_, rfl⟩
    obtain ⟨K, hK⟩ : ∃ K : Int, (k : Int) = K := ⟨_, rfl⟩
    rw [hN, hK] at C HB ⊢
    have hN2 : (N == 2) = false := by simp; omega
    clear e hbl hS hH h hn h0 hN hK
    go_enter Tryz.func12, Tryz.ntmps12
    go_wp2_with fail
    refine C.out.mono ?_
    rintro e w1 ⟨rfl, hb1⟩
    have HB2 := hide (HB.out.trans (hb1.mono HB.out.size))
    clear C hb1
    go_wp2
    go_ret
    exact ⟨rfl, HB2.out⟩
/-- the sentinels and the handle lie below B -/
def SH (B : Nat) (w : World) (a : Nat → Addr) : Prop := ∀ w', Below B w w' → Snt w' a ∧ Hnd w'
theorem SH.below {B : Nat} {w w' : World} {a : Nat → Addr} (h : SH B w a) (hb : Below B w w') : SH B w' a := fun w'' h'' => h w'' (hb.trans h'')
theorem SH.of {w : World} {a : Nat → Addr} (h : Snt w a) (k : Hnd w) : SH w.heap.size w a := fun w' hb => ⟨h.below hb, k.below hb⟩
theorem SH.snt {B : Nat} {w : World} {a : Nat → Addr} (h : SH B w a) : SntB B w a := fun w' hb => (h w' hb).1
theorem bad_ok {s : Sc} (h : GoodS s) : s.st.bad = 0 ∨ s.st.bad = 3 ∨ s.st.bad = 5 := h.bd
theorem code_ok {s : Sc} (h : GoodS s) : codeC s = 0 ∨ codeC s = 3 ∨ codeC s = 5 := by
  unfold codeC
  have := h.bd
  split
  · split <;> omega
  · exact this
/-- what a call leaves of a place -/
def Done (w : World) (a : Nat → Addr) (B bp of p r : Nat) (ov tv : Value) (s : Sc) (e : Ending) (w' : World) : Prop :=
  e = .returned (.bool true) ∧ ∃ ov' tv', Pl w' a B bp of p r ov' tv' s ∧ Fb p r ov ov' tv tv' w w'
set_option maxRecDepth 100000 in
set_option maxHeartbeats 4000000 in
theorem does_w {w : World} {a : Nat → Addr} {B bp of p r : Nat} {ov tv : Value} {s : Sc} {on : Int} {es : List Int} {ch : ByteArray} (h : Pl w a B bp of p r ov tv s) (hS : SH B w a) (hb : uByt es) (hch : ch = strOfNums es) (hsz : s.size + es.length + 4 ≤ 140737488355328) :
    Calls Tryz.prog 8 #[.pointer (some ⟨bp, of, none⟩), .agg #[.int .i64 1, .int .i64 on, .string ch]] w (Done w a B bp of p r ov tv (writeB es s)) := by
  have HB : Below w.heap.size w (w.alloc (.cells #[.int .i64 1, .int .i64 on, .string ch] 31)) := (Below.refl _ _).alloc (Nat.le_refl _) _
  have hBw : B ≤ w.heap.size := by have h1 := h.ts.sc.le; have h2 := h.ts.sc.lt; omega
  obtain ⟨O, hO⟩ : ∃ O, w.heap.size = O := ⟨_, rfl⟩
  have hnew := heap_alloc_new w (.cells #[.int .i64 1, .int .i64 on, .string ch] 31)
  rw [hO] at hnew
  have hpl := h.below HB
  have hss := hS.below (HB.mono hBw)
  have hszW : (w.alloc (.cells #[.int .i64 1, .int .i64 on, .string ch] 31)).heap.size = O + 1 := by rw [← hO]; simp
  have HFB := hide (Fb.below (p := p) (r := r) (ov := ov) (tv := tv) HB)
  have hbpO : bp < O := by have := h.lt; omega
  have HRO := hide (show r < O from by have := h.rs.lt; omega)
  have HPO := hide (show p < O from by have := h.ts.sc.lt; omega)
  have HOV := hide (show ∀ g, ov.ownBlock = some g → g < O from fun g e => by have := (h.ts.sc.ownLt g e).2; omega)
  have HTV := hide (show ∀ g, tv.ownBlock = some g → g < O from fun g e => by have := (h.rs.ownLt g e).2; omega)
  have k0 : (w.alloc (.cells #[.int .i64 1, .int .i64 on, .string ch] 31)).cell? ⟨O, 0, none⟩ = some (.int .i64 1) := Lib.cell_of_heap hnew 0
  obtain ⟨W, hW⟩ : ∃ W, w.alloc (.cells #[.int .i64 1, .int .i64 on, .string ch] 31) = W := ⟨_, rfl⟩
  rw [hW] at HB hnew hpl hss hszW HFB k0
  have hd : Below W.heap.size W W.drew := (Below.refl _ _).drew
  have hpd := hpl.below hd
  have hsd := hss.below (hd.mono (by omega))
  have CW := hide (jWrite hpd.ts (hsd.snt) hb hch (by omega))
  have HPD := hide hpd
  have HSD := hide hsd
  have HGW := hide (good_write h.ts.good es hb)
  have HD := hide (show _ ∧ _ ∧ _ from ⟨hb, hch, hsz⟩)
  have HNW := hide hnew
  have KS : W.drew.cell? ⟨bp, of, none⟩ = some (.pointer (some ⟨p, 0, none⟩)) ∧ W.drew.cell? ⟨bp, of + 1, none⟩ = some (.pointer (some ⟨r, 0, none⟩)) ∧ W.drew.cell? ⟨O, 2, none⟩ = some (.string ch) := ⟨hpd.c0, hpd.c1, Lib.cell_of_heap hnew 2⟩
  clear h hS hb hch hsz hpl hss hpd hsd hd HB hnew
  go_enter Tryz.func8, Tryz.ntmps8
  go_wp2_with fail
  go_region_held3 (fun u => u.cell? ⟨bp, of, none⟩ = some (.pointer (some ⟨p, 0, none⟩)) ∧ u.cell? ⟨bp, of + 1, none⟩ = some (.pointer (some ⟨r, 0, none⟩)) ∧ u.cell? ⟨O, 2, none⟩ = some (.string ch)) (with_reducible exact KS)
    (first
      | (go_at_call 13; (refine CW.out.mono ?_); rintro e w2 ⟨v, ov2, rfl, g1, g2, g3⟩
         have ho2 : w2.heap[O]? = W.drew.heap[O]? := g3.block O (by show O < W.heap.size; omega) (by have := HPO.out; omega) (fun e => by have := HOV.out O e; omega)
         have hq := HPD.out.wrT (s' := writeB es s) g3
         have hs2 := HSD.out.below (HPD.out.toBelow (Fb.ofT g3))
         have C2 := hide (dWrite hq.1 HPD.out.ts.good HD.out.1 HD.out.2.1 HD.out.2.2)
         have Z2 := hide (show _ ∧ _ ∧ _ ∧ _ from ⟨g1, g2, g3, hs2⟩)
         replace KS : w2.cell? ⟨bp, of, none⟩ = some (.pointer (some ⟨p, 0, none⟩)) ∧ w2.cell? ⟨bp, of + 1, none⟩ = some (.pointer (some ⟨r, 0, none⟩)) ∧ w2.cell? ⟨O, 2, none⟩ = some (.string ch) := ⟨hq.2.1, hq.2.2, by rw [cell_block ho2]; exact Lib.cell_of_heap HNW.out 2⟩
         have HO2 := hide ho2
         clear g1 g2 g3 hq hs2 ho2)
      | (go_at_call 14; (refine C2.out.mono ?_); rintro e w3 ⟨tv2, rfl, j1, j2⟩
         have hsz3 : W.heap.size ≤ w2.heap.size := Z2.out.2.2.1.size
         have ho3 : w3.heap[O]? = w2.heap[O]? := j2.block O (by omega) (by have := HRO.out; omega) (fun e => by have := HTV.out O e; omega)
         have hp3 := HPD.out.wrR Z2.out.2.2.1 Z2.out.1 j2 j1
         have hs3 := Z2.out.2.2.2.below (j2.below (HPD.out.rs.le) (by have h1 := HPD.out.ts.sc.le; have h2 := HPO.out; omega) (fun k e => (HPD.out.rs.ownLt k e).1))
         have ht3 : Tl w3 a W.drew.heap.size (writeB es s).st.bad (writeB es s).size v := tl_fr Z2.out.2.1 j2 (by show r < W.heap.size; have := HRO.out; omega) (fun g e => by show g < W.heap.size; have := HTV.out g e; omega)
         have C3 := hide (pfits ht3 (bad_ok HGW.out) (hs3 w3 (Below.refl _ _)).1 (hs3 w3 (Below.refl _ _)).2)
         have Z3 := hide (show _ ∧ _ from ⟨hp3, j2⟩)
         replace KS : w3.cell? ⟨bp, of, none⟩ = some (.pointer (some ⟨p, 0, none⟩)) ∧ w3.cell? ⟨bp, of + 1, none⟩ = some (.pointer (some ⟨r, 0, none⟩)) ∧ w3.cell? ⟨O, 2, none⟩ = some (.string ch) := ⟨hp3.c0, hp3.c1, by rw [cell_block ho3, cell_block HO2.out]; exact Lib.cell_of_heap HNW.out 2⟩
         have HO3 := hide ho3
         clear j1 j2 hsz3 ho3 hp3 hs3 ht3)
      | (go_at_call 12; (refine C3.out.mono ?_); rintro e w4 ⟨rfl, hb4⟩
         have hp4 := Z3.out.1.below hb4
         have hlt4 := Z3.out.1.lt
         have ho4 : w4.heap[O]? = w3.heap[O]? := hb4.block O (by have h1 := Z2.out.2.2.1.size; have h2 := Z3.out.2.size; have h3 : W.drew.heap.size = W.heap.size := rfl; omega)
         have Z4 := hide (show _ ∧ _ from ⟨hp4, hb4⟩)
         replace KS : w4.cell? ⟨bp, of, none⟩ = some (.pointer (some ⟨p, 0, none⟩)) ∧ w4.cell? ⟨bp, of + 1, none⟩ = some (.pointer (some ⟨r, 0, none⟩)) ∧ w4.cell? ⟨O, 2, none⟩ = some (.string ch) := ⟨hp4.c0, hp4.c1, by rw [cell_block ho4, cell_block HO3.out, cell_block HO2.out]; exact Lib.cell_of_heap HNW.out 2⟩
         clear hp4 hb4 hlt4 ho4))
  clear KS
  go_wp2
  go_ret
  exact ⟨rfl, ov2, tv2, Z4.out.1, ((HFB.out.trans (Fb.below (Below.refl _ _).drew)).trans ((Fb.ofT Z2.out.2.2.1).trans (Fb.ofR Z3.out.2))).trans (Fb.below Z4.out.2)⟩

end Go.Proofs.YtefmlajndillbaaGreatDoor

namespace Go.Proofs.YtefmlajndillbaaGreatDoor
open Go.RowKit
set_option linter.unusedVariables false

theorem Pl.blt {w : World} {a : Nat → Addr} {B bp of p r : Nat} {ov tv : Value} {s : Sc} (h : Pl w a B bp of p r ov tv s) : B ≤ w.heap.size := by
  have h1 := h.ts.sc.le; have h2 := h.ts.sc.lt; omega

set_option maxRecDepth 100000 in
set_option maxHeartbeats 4000000 in
theorem does_c {w : World} {a : Nat → Addr} {B bp of p r : Nat} {ov tv : Value} {s : Sc} {on : Int} {ch : ByteArray} (h : Pl w a B bp of p r ov tv s) (hS : SH B w a) :
    Calls Tryz.prog 8 #[.pointer (some ⟨bp, of, none⟩), .agg #[.int .i64 2, .int .i64 on, .string ch]] w (Done w a B bp of p r ov tv s) := by
  have HB : Below w.heap.size w (w.alloc (.cells #[.int .i64 2, .int .i64 on, .string ch] 31)) := (Below.refl _ _).alloc (Nat.le_refl _) _
  obtain ⟨O, hO⟩ : ∃ O, w.heap.size = O := ⟨_, rfl⟩
  have hnew := heap_alloc_new w (.cells #[.int .i64 2, .int .i64 on, .string ch] 31)
  rw [hO] at hnew
  have hpl := h.below HB
  have hss := hS.below (HB.mono h.blt)
  have HFB := hide (Fb.below (p := p) (r := r) (ov := ov) (tv := tv) HB)
  have k0 : (w.alloc (.cells #[.int .i64 2, .int .i64 on, .string ch] 31)).cell? ⟨O, 0, none⟩ = some (.int .i64 2) := Lib.cell_of_heap hnew 0
  obtain ⟨W, hW⟩ : ∃ W, w.alloc (.cells #[.int .i64 2, .int .i64 on, .string ch] 31) = W := ⟨_, rfl⟩
  rw [hW] at HB hnew hpl hss HFB k0
  have HPD := hide hpl
  have HSD := hide hss
  have HG := hide h.ts.good
  have HBW := hide hpl.blt
  have K : Below W.heap.size W W.drew := (Below.refl _ _).drew
  have CC : ∀ u, Below W.heap.size W u → u.cell? ⟨bp, of, none⟩ = some (.pointer (some ⟨p, 0, none⟩)) ∧ u.cell? ⟨bp, of + 1, none⟩ = some (.pointer (some ⟨r, 0, none⟩)) := fun u hu => ⟨(HPD.out.below hu).c0, (HPD.out.below hu).c1⟩
  have C1 := hide (show ∀ u, Below W.heap.size W u → Calls Tryz.prog 15 #[.pointer (some ⟨p, 0, none⟩)] u fun e w' => ∃ v, e = .returned v ∧ Tl w' a u.heap.size (codeC s) s.size v ∧ Below u.heap.size u w' from fun u hu => jClose (HPD.out.below hu).ts ((HSD.out u (hu.mono HBW.out)).1))
  have C2 := hide (show ∀ u, Below W.heap.size W u → Calls Tryz.prog 16 #[.pointer (some ⟨r, 0, none⟩)] u fun e w' => e = .returned (fltV (codeC s) (atC (codeC s) s.size)) ∧ Below u.heap.size u w' from fun u hu => dClose (HPD.out.below hu).rs (by have := HG.out.bd; omega))
  clear h hS hpl hss HB hnew
  go_enter Tryz.func8, Tryz.ntmps8
  go_wp2_with fail
  go_region_held3 (fun u => u.cell? ⟨bp, of, none⟩ = some (.pointer (some ⟨p, 0, none⟩)) ∧ u.cell? ⟨bp, of + 1, none⟩ = some (.pointer (some ⟨r, 0, none⟩))) (with_reducible exact CC _ K)
    (first
      | (go_at_call 15; (refine (C1.out _ K).mono ?_); rintro e w2 ⟨v, rfl, ht, hb2⟩; replace K := K.trans (hb2.mono K.size); have HT := hide ht; clear ht hb2)
      | (go_at_call 16; (refine (C2.out _ K).mono ?_); rintro e w3 ⟨rfl, hb3⟩; replace K := K.trans (hb3.mono K.size); have C3 := hide (pfits (HT.out.below hb3) (code_ok HG.out) (HSD.out w3 (K.mono HBW.out)).1 (HSD.out w3 (K.mono HBW.out)).2); clear hb3)
      | (go_at_call 12; (refine C3.out.mono ?_); rintro e w4 ⟨rfl, hb4⟩; replace K := K.trans (hb4.mono K.size); clear hb4))
  have HK := hide K
  clear K CC
  go_wp2
  go_ret
  exact ⟨rfl, ov, tv, HPD.out.below HK.out, HFB.out.trans (Fb.below HK.out)⟩
set_option maxRecDepth 100000 in
set_option maxHeartbeats 4000000 in
theorem does_l {w : World} {a : Nat → Addr} {B bp of p r : Nat} {ov tv : Value} {s : Sc} {on : Int} {ch : ByteArray} (h : Pl w a B bp of p r ov tv s) (hS : SH B w a) :
    Calls Tryz.prog 8 #[.pointer (some ⟨bp, of, none⟩), .agg #[.int .i64 3, .int .i64 on, .string ch]] w (Done w a B bp of p r ov tv s) := by
  have HB : Below w.heap.size w (w.alloc (.cells #[.int .i64 3, .int .i64 on, .string ch] 31)) := (Below.refl _ _).alloc (Nat.le_refl _) _
  obtain ⟨O, hO⟩ : ∃ O, w.heap.size = O := ⟨_, rfl⟩
  have hnew := heap_alloc_new w (.cells #[.int .i64 3, .int .i64 on, .string ch] 31)
  rw [hO] at hnew
  have hpl := h.below HB
  have hss := hS.below (HB.mono h.blt)
  have HFB := hide (Fb.below (p := p) (r := r) (ov := ov) (tv := tv) HB)
  have k0 : (w.alloc (.cells #[.int .i64 3, .int .i64 on, .string ch] 31)).cell? ⟨O, 0, none⟩ = some (.int .i64 3) := Lib.cell_of_heap hnew 0
  obtain ⟨W, hW⟩ : ∃ W, w.alloc (.cells #[.int .i64 3, .int .i64 on, .string ch] 31) = W := ⟨_, rfl⟩
  rw [hW] at HB hnew hpl hss HFB k0
  have HPD := hide hpl
  have HSD := hide hss
  have HG := hide h.ts.good
  have HBW := hide hpl.blt
  have K : Below W.heap.size W W.drew := (Below.refl _ _).drew
  have CC : ∀ u, Below W.heap.size W u → u.cell? ⟨bp, of, none⟩ = some (.pointer (some ⟨p, 0, none⟩)) ∧ u.cell? ⟨bp, of + 1, none⟩ = some (.pointer (some ⟨r, 0, none⟩)) := fun u hu => ⟨(HPD.out.below hu).c0, (HPD.out.below hu).c1⟩
  have C1 := hide (show ∀ u, Below W.heap.size W u → Calls Tryz.prog 17 #[.pointer (some ⟨p, 0, none⟩)] u fun e w' => e = .returned (.int .i64 s.size) ∧ w' = u from fun u hu => jLen (HPD.out.below hu).ts.sc)
  have C2 := hide (show ∀ u, Below W.heap.size W u → Calls Tryz.prog 18 #[.pointer (some ⟨r, 0, none⟩)] u fun e w' => e = .returned (.int .i64 s.size) ∧ w' = u from fun u hu => dLen (HPD.out.below hu).rs)
  obtain ⟨Z, hZ⟩ : ∃ Z : Int, (s.size : Int) = Z := ⟨_, rfl⟩
  rw [hZ] at C1 C2
  clear h hS hpl hss HB hnew hZ
  go_enter Tryz.func8, Tryz.ntmps8
  go_wp2_with fail
  go_region_held3 (fun u => u.cell? ⟨bp, of, none⟩ = some (.pointer (some ⟨p, 0, none⟩)) ∧ u.cell? ⟨bp, of + 1, none⟩ = some (.pointer (some ⟨r, 0, none⟩))) (with_reducible exact CC _ K)
    (first
      | (go_at_call 17; (refine (C1.out _ K).mono ?_); rintro e w2 ⟨rfl, rfl⟩)
      | (go_at_call 18; (refine (C2.out _ K).mono ?_); rintro e w3 ⟨rfl, rfl⟩))
  have HK := hide K
  clear K CC
  go_wp2
  go_ret
  exact ⟨rfl, ov, tv, HPD.out.below HK.out, HFB.out.trans (Fb.below HK.out)⟩
set_option maxRecDepth 100000 in
set_option maxHeartbeats 4000000 in
theorem does_d {w : World} {a : Nat → Addr} {B bp of p r : Nat} {ov tv : Value} {s : Sc} {on : Int} {ch : ByteArray} (h : Pl w a B bp of p r ov tv s) (hS : SH B w a) :
    Calls Tryz.prog 8 #[.pointer (some ⟨bp, of, none⟩), .agg #[.int .i64 4, .int .i64 on, .string ch]] w (Done w a B bp of p r ov tv s) := by
  have HB : Below w.heap.size w (w.alloc (.cells #[.int .i64 4, .int .i64 on, .string ch] 31)) := (Below.refl _ _).alloc (Nat.le_refl _) _
  obtain ⟨O, hO⟩ : ∃ O, w.heap.size = O := ⟨_, rfl⟩
  have hnew := heap_alloc_new w (.cells #[.int .i64 4, .int .i64 on, .string ch] 31)
  rw [hO] at hnew
  have hpl := h.below HB
  have hss := hS.below (HB.mono h.blt)
  have HFB := hide (Fb.below (p := p) (r := r) (ov := ov) (tv := tv) HB)
  have k0 : (w.alloc (.cells #[.int .i64 4, .int .i64 on, .string ch] 31)).cell? ⟨O, 0, none⟩ = some (.int .i64 4) := Lib.cell_of_heap hnew 0
  obtain ⟨W, hW⟩ : ∃ W, w.alloc (.cells #[.int .i64 4, .int .i64 on, .string ch] 31) = W := ⟨_, rfl⟩
  rw [hW] at HB hnew hpl hss HFB k0
  have HPD := hide hpl
  have HSD := hide hss
  have HG := hide h.ts.good
  have HBW := hide hpl.blt
  have K : Below W.heap.size W W.drew := (Below.refl _ _).drew
  have CC : ∀ u, Below W.heap.size W u → u.cell? ⟨bp, of, none⟩ = some (.pointer (some ⟨p, 0, none⟩)) ∧ u.cell? ⟨bp, of + 1, none⟩ = some (.pointer (some ⟨r, 0, none⟩)) := fun u hu => ⟨(HPD.out.below hu).c0, (HPD.out.below hu).c1⟩
  have C1 := hide (show ∀ u, Below W.heap.size W u → Calls Tryz.prog 19 #[.pointer (some ⟨p, 0, none⟩)] u fun e w' => e = .returned (.int .i64 (s.st.opn.length : Nat)) ∧ w' = u from fun u hu => jDepth (HPD.out.below hu).ts.sc)
  have C2 := hide (show ∀ u, Below W.heap.size W u → Calls Tryz.prog 20 #[.pointer (some ⟨r, 0, none⟩)] u fun e w' => e = .returned (.int .i64 (s.st.opn.length : Nat)) ∧ w' = u from fun u hu => dDepth (HPD.out.below hu).rs)
  obtain ⟨Z, hZ⟩ : ∃ Z : Int, ((s.st.opn.length : Nat) : Int) = Z := ⟨_, rfl⟩
  rw [hZ] at C1 C2
  clear h hS hpl hss HB hnew hZ
  go_enter Tryz.func8, Tryz.ntmps8
  go_wp2_with fail
  go_region_held3 (fun u => u.cell? ⟨bp, of, none⟩ = some (.pointer (some ⟨p, 0, none⟩)) ∧ u.cell? ⟨bp, of + 1, none⟩ = some (.pointer (some ⟨r, 0, none⟩))) (with_reducible exact CC _ K)
    (first
      | (go_at_call 19; (refine (C1.out _ K).mono ?_); rintro e w2 ⟨rfl, rfl⟩)
      | (go_at_call 20; (refine (C2.out _ K).mono ?_); rintro e w3 ⟨rfl, rfl⟩))
  have HK := hide K
  clear K CC
  go_wp2
  go_ret
  exact ⟨rfl, ov, tv, HPD.out.below HK.out, HFB.out.trans (Fb.below HK.out)⟩
set_option maxRecDepth 100000 in
set_option maxHeartbeats 4000000 in
theorem does_o {w : World} {a : Nat → Addr} {B bp of p r : Nat} {ov tv : Value} {s : Sc} {on : Int} {ch : ByteArray} {kd : Int} (h : Pl w a B bp of p r ov tv s) (hS : SH B w a) (h1 : kd ≠ 1) (h2 : kd ≠ 2) (h3 : kd ≠ 3) (h4 : kd ≠ 4) :
    Calls Tryz.prog 8 #[.pointer (some ⟨bp, of, none⟩), .agg #[.int .i64 kd, .int .i64 on, .string ch]] w (Done w a B bp of p r ov tv s) := by
  have HB : Below w.heap.size w (w.alloc (.cells #[.int .i64 kd, .int .i64 on, .string ch] 31)) := (Below.refl _ _).alloc (Nat.le_refl _) _
  obtain ⟨O, hO⟩ : ∃ O, w.heap.size = O := ⟨_, rfl⟩
  have hnew := heap_alloc_new w (.cells #[.int .i64 kd, .int .i64 on, .string ch] 31)
  rw [hO] at hnew
  have hpl := h.below HB
  have hss := hS.below (HB.mono h.blt)
  have HFB := hide (Fb.below (p := p) (r := r) (ov := ov) (tv := tv) HB)
  have k0 : (w.alloc (.cells #[.int .i64 kd, .int .i64 on, .string ch] 31)).cell? ⟨O, 0, none⟩ = some (.int .i64 kd) := Lib.cell_of_heap hnew 0
  obtain ⟨W, hW⟩ : ∃ W, w.alloc (.cells #[.int .i64 kd, .int .i64 on, .string ch] 31) = W := ⟨_, rfl⟩
  rw [hW] at HB hnew hpl hss HFB k0
  have HPD := hide hpl
  have HSD := hide hss
  have HG := hide h.ts.good
  have HBW := hide hpl.blt
  have b1 : (kd == 1) = false := beq_eq_false_iff_ne.2 h1
  have b2 : (kd == 2) = false := beq_eq_false_iff_ne.2 h2
  have b3 : (kd == 3) = false := beq_eq_false_iff_ne.2 h3
  have b4 : (kd == 4) = false := beq_eq_false_iff_ne.2 h4
  clear h hS hpl hss HB hnew h1 h2 h3 h4
  go_enter Tryz.func8, Tryz.ntmps8
  go_wp2
  go_ret
  exact ⟨rfl, ov, tv, HPD.out, HFB.out⟩
/-- a question -/
theorem does_q {w : World} {a : Nat → Addr} {B bp of p r : Nat} {ov tv : Value} {s : Sc} {kd : Int} (h : Pl w a B bp of p r ov tv s) (hS : SH B w a) (hsz : s.size + 4 ≤ 140737488355328) :
    Calls Tryz.prog 8 #[.pointer (some ⟨bp, of, none⟩), .agg #[.int .i64 kd, .int .i64 0, .string ⟨#[]⟩]] w (Done w a B bp of p r ov tv s) := by
  by_cases k1 : kd = 1
  · subst k1
    exact does_w (es := []) h hS (fun x hx => absurd hx (by simp)) rfl (by simpa using hsz)
  by_cases k2 : kd = 2
  · subst k2; exact does_c h hS
  by_cases k3 : kd = 3
  · subst k3; exact does_l h hS
  by_cases k4 : kd = 4
  · subst k4; exact does_d h hS
  · exact does_o h hS k1 k2 k3 k4
set_option maxRecDepth 100000 in
theorem pall {w : World} {a : Nat → Addr} {B bp of p r : Nat} {ov tv : Value} {s : Sc} (h : Pl w a B bp of p r ov tv s) (hS : SH B w a) (hsz : s.size + 4 ≤ 140737488355328) :
    Calls Tryz.prog 9 #[.pointer (some ⟨bp, of, none⟩)] w (Done w a B bp of p r ov tv s) := by
  have HC := hide (show ∀ u ov1 tv1, Pl u a B bp of p r ov1 tv1 s → SH B u a → ∀ kd : Int, Calls Tryz.prog 8 #[.pointer (some ⟨bp, of, none⟩), .agg #[.int .i64 kd, .int .i64 0, .string ⟨#[]⟩]] u (Done u a B bp of p r ov1 tv1 s) from
    fun u ov1 tv1 hu hs kd => does_q hu hs hsz)
  have C0 := hide (HC.out w ov tv h hS 2)
  have HS := hide hS
  have HPW := hide h
  clear h hS
  go_enter Tryz.func9, Tryz.ntmps9
  go_wp2_with fail
  refine C0.out.mono ?_
  rintro e w1 ⟨rfl, ov1, tv1, g1, g2⟩
  have F1 := hide g2
  have P1 := hide g1
  have C1 := hide (HC.out w1 ov1 tv1 g1 (HS.out.below (HPW.out.toBelow F1.out)) 3)
  clear g1 g2 C0
  go_wp2_with fail
  refine C1.out.mono ?_
  rintro e w2 ⟨rfl, ov2, tv2, g1, g2⟩
  have F2 := hide (F1.out.trans g2)
  have P2 := hide g1
  have C2 := hide (HC.out w2 ov2 tv2 g1 (HS.out.below (HPW.out.toBelow F2.out)) 4)
  clear g1 g2 C1
  go_wp2_with fail
  refine C2.out.mono ?_
  rintro e w3 ⟨rfl, ov3, tv3, g1, g2⟩
  have F3 := hide (F2.out.trans g2)
  have P3 := hide g1
  have C3 := hide (HC.out w3 ov3 tv3 g1 (HS.out.below (HPW.out.toBelow F3.out)) 1)
  clear g1 g2 C2
  go_wp2_with fail
  refine C3.out.mono ?_
  rintro e w4 ⟨rfl, ov4, tv4, g1, g2⟩
  have F4 := hide (F3.out.trans g2)
  have P4 := hide g1
  have C4 := hide (HC.out w4 ov4 tv4 g1 (HS.out.below (HPW.out.toBelow F4.out)) 2)
  clear g1 g2 C3
  go_wp2_with fail
  refine C4.out.mono ?_
  rintro e w5 ⟨rfl, ov5, tv5, g1, g2⟩
  have F5 := hide (F4.out.trans g2)
  have P5 := hide g1
  clear g1 g2 C4
  go_wp2
  go_ret
  exact ⟨rfl, ov5, tv5, P5.out, F5.out⟩

end Go.Proofs.YtefmlajndillbaaGreatDoor

namespace Go.Proofs.YtefmlajndillbaaGreatDoor
open Go.RowKit
set_option linter.unusedVariables false

theorem dNewB {w : World} {B : Nat} (hB : B ≤ w.heap.size) : Calls Tryz.prog 7 #[] w fun e w' => e = .returned (.pointer (some ⟨w.heap.size, 0, none⟩)) ∧ DS w' B w.heap.size (.slice none 0 0) sc0 ∧ Below w.heap.size w w' := by
  have HB := hide hB
  clear hB
  go_enter Tryz.func7, Tryz.ntmps7
  go_wp2
  go_ret
  refine ⟨rfl, ⟨[], ⟨0, [], 0, 0, 0, 0, 0, 0, false, [], 0, 0, 0⟩, ⟨heap_alloc_new w _, World.ownsRow_nil _ _ _ _, HB.out⟩, rfl, rfl, rfl, rfl, fun _ => ⟨⟨⟨0, [], false, []⟩, ⟨rfl, rfl, rfl, rfl⟩, ⟨rfl, rfl, nofun, nofun, nofun, nofun⟩, fun _ => rfl, nofun⟩, rfl⟩⟩, (Below.refl _ _).alloc (Nat.le_refl _) _⟩
theorem ptr_nil (w : World) (q : Addr) : (binOp .neq 23 (.pointer (some q)) (.pointer none)).run Tryz.prog w = .ok (.bool true) w := by
  have h : ∀ d : Nat, (Op.equalIn (d + 1) 23 (.pointer (some q)) (.pointer none)).run Tryz.prog w = .ok false w := fun d => by
    simp [Op.equalIn, run_underlying Tryz.underlying23]
  simp only [binOp]
  simp [Op.equal, Op.maxDepth, h 9999]
/-- a new place -/
theorem pl_new {w1 w2 : World} {a : Nat → Addr} {B p R : Nat} (h1 : ScP w1 a B p (.slice none 0 0) sc0) (hR : w1.heap.size = R) (hb : Below R w1 w2) (h2 : DS w2 B R (.slice none 0 0) sc0) (T : TypeId) :
    Pl (w2.alloc (.cells #[.pointer (some ⟨p, 0, none⟩), .pointer (some ⟨R, 0, none⟩)] T)) a B w2.heap.size 0 p R (.slice none 0 0) (.slice none 0 0) sc0 := by
  have hn := heap_alloc_new w2 (.cells #[.pointer (some ⟨p, 0, none⟩), .pointer (some ⟨R, 0, none⟩)] T)
  have hbl : Below w2.heap.size w2 (w2.alloc (.cells #[.pointer (some ⟨p, 0, none⟩), .pointer (some ⟨R, 0, none⟩)] T)) := (Below.refl _ _).alloc (Nat.le_refl _) _
  have l1 := h1.sc.lt
  have l2 := h2.lt
  subst hR
  exact ⟨(h1.below hb).below hbl, h2.below hbl, Lib.cell_of_heap hn 0, Lib.cell_of_heap hn 1, by simp, ⟨by omega, by omega, by omega⟩, fun g e => by simp [Value.ownBlock] at e, fun g e => by simp [Value.ownBlock] at e⟩
set_option maxRecDepth 100000 in
set_option maxHeartbeats 4000000 in
theorem jtells {w : World} {a : Nat → Addr} {es : List Int} {ch : ByteArray} (hS : Snt w a) (hH : Hnd w) (hb : uByt es) (hch : ch = strOfNums es) (hl : es.length + 4 ≤ 140737488355328) :
    Calls Tryz.prog 5 #[.string ch] w fun e w' => e = .returned (.bool true) ∧ Below w.heap.size w w' := by
  have C0 := hide (jNew (w := w) (a := a))
  have HSH := hide (SH.of hS hH)
  have HD := hide (show _ ∧ _ ∧ _ from ⟨hb, hch, hl⟩)
  clear hS hH hb hch hl
  obtain ⟨B, hB⟩ : ∃ B, w.heap.size = B := ⟨_, rfl⟩
  rw [hB] at C0 HSH ⊢
  go_enter Tryz.func5, Tryz.ntmps5
  go_wp2_with fail
  refine C0.out.mono ?_
  rintro e w1 ⟨rfl, g1, g2⟩
  have hsz1 : B ≤ w1.heap.size := by have := g1.sc.lt; omega
  have C1 := hide (dNewB (w := w1) (B := B) hsz1)
  obtain ⟨R, hR⟩ : ∃ R, w1.heap.size = R := ⟨_, rfl⟩
  rw [hR] at C1
  have G1 := hide (show _ ∧ _ from ⟨g1, g2⟩)
  have HR := hide hR
  clear g1 g2 C0 hsz1 hR
  go_wp2_with fail
  refine C1.out.mono ?_
  rintro e w2 ⟨rfl, g3, g4⟩
  have hpl := pl_new G1.out.1 HR.out g4 g3 28
  have hbel : Below B w (w2.alloc (.cells #[.pointer (some ⟨B, 0, none⟩), .pointer (some ⟨R, 0, none⟩)] 28)) := by
    have l1 := G1.out.1.sc.lt
    have l2 := g3.lt
    have l3 := HR.out
    exact (G1.out.2.trans (g4.mono (by omega))).trans ((Below.refl B w2).alloc (by omega) _)
  have hss := HSH.out.below hbel
  have C2 := hide (does_w (on := 0) hpl hss HD.out.1 HD.out.2.1 (by have := HD.out.2.2; show 0 + es.length + 4 ≤ _; omega))
  obtain ⟨G, hG⟩ : ∃ G, w2.heap.size = G := ⟨_, rfl⟩
  rw [hG] at C2 hpl
  have HPL := hide hpl
  have HBL := hide hbel
  have HSZ := hide (show (writeB es sc0).size + 4 ≤ 140737488355328 from by
    have h1 := (write_size es sc0).1
    have h2 : sc0.size = 0 := rfl
    have := HD.out.2.2
    omega)
  clear g3 g4 C1 hpl hss hbel
  have pn := fun u : World => ptr_nil u ⟨B, 0, none⟩
  go_wp2_with fail
  refine C2.out.mono ?_
  rintro e w3 ⟨rfl, ov3, tv3, p3, f3⟩
  have b3 := HPL.out.toBelow f3
  have B3 := hide (HBL.out.trans b3)
  have P3 := hide p3
  have C3 := hide (pall p3 (HSH.out.below B3.out) HSZ.out)
  clear p3 f3 b3 C2 HPL HBL
  go_wp2_with fail
  refine C3.out.mono ?_
  rintro e w4 ⟨rfl, ov4, tv4, p4, f4⟩
  have b4 := P3.out.toBelow f4
  have B4 := hide (B3.out.trans b4)
  have P4 := hide p4
  have C4 := hide (pall p4 (HSH.out.below B4.out) HSZ.out)
  clear p4 f4 b4 C3 P3 B3
  go_wp2_with fail
  refine C4.out.mono ?_
  rintro e w5 ⟨rfl, ov5, tv5, p5, f5⟩
  have b5 := P4.out.toBelow f5
  have B5 := hide (B4.out.trans b5)
  have C5 := hide (jlives (HSH.out w5 B5.out).1 (HSH.out w5 B5.out).2)
  clear p5 f5 b5 C4 P4 B4
  go_wp2_with fail
  refine C5.out.mono ?_
  rintro e w6 ⟨rfl, hb6⟩
  have B6 := hide (B5.out.trans (hb6.mono (by have := B5.out.size; omega)))
  clear hb6 C5 B5
  go_wp2
  go_ret
  exact ⟨rfl, B6.out⟩

end Go.Proofs.YtefmlajndillbaaGreatDoor
