/- both scanners: the document's New, Write, complete, Close, Len, Depth -/
import Derived.Test.YtefmlajndillbaaGreatDoorDnE
import Derived.Test.YtefmlajndillbaaGreatDoorJsN
namespace Go.Proofs.YtefmlajndillbaaGreatDoor
open Go.RowKit
set_option linter.unusedVariables false

/-- the document's scanner says what the program's does -/
def DS (w : World) (B p : Nat) (tv : Value) (s : Sc) : Prop :=
  ∃ es d, DcS w B p tv es d ∧ d.size = s.size ∧ d.code = s.st.bad ∧ d.at_ = (if s.st.bad = 0 then 0 else (s.size : Int)) ∧ d.opn = s.st.opn.map (fun c => c - 2) ∧ (s.st.bad = 0 → DRel s.md s.st d es s.size ∧ s.st.ends = endM s.md)
theorem DS.below {w w' : World} {B p : Nat} {tv : Value} {s : Sc} (h : DS w B p tv s) (hb : Below w.heap.size w w') : DS w' B p tv s := by
  obtain ⟨es, d, h1, h2⟩ := h
  exact ⟨es, d, h1.below hb, h2⟩
theorem DS.lt {w : World} {B p : Nat} {tv : Value} {s : Sc} (h : DS w B p tv s) : p < w.heap.size := by
  obtain ⟨es, d, h1, h2⟩ := h
  exact h1.lt
theorem DS.le {w : World} {B p : Nat} {tv : Value} {s : Sc} (h : DS w B p tv s) : B ≤ p := by
  obtain ⟨es, d, h1, h2⟩ := h
  exact h1.le
theorem DS.ownLt {w : World} {B p : Nat} {tv : Value} {s : Sc} (h : DS w B p tv s) : ∀ k, tv.ownBlock = some k → B ≤ k ∧ k < w.heap.size := by
  obtain ⟨es, d, h1, h2⟩ := h
  exact h1.ownLt
theorem own_block {w w' : World} {B : Nat} {E : TypeId} {v : Value} {n : Nat} {xs : List Value} (h : w.ownsRow B E 1 v n xs) (hb : ∀ g, v.ownBlock = some g → w'.heap[g]? = w.heap[g]?) : w'.ownsRow B E 1 v n xs := by
  refine ⟨h.1, ?_⟩
  rcases h.2 with e | ⟨g, cap, cur, e, e1, e2, e3⟩
  · exact Or.inl e
  · exact Or.inr ⟨g, cap, cur, e, e1, by rw [hb g (by rw [e]; rfl)]; exact e2, e3⟩
theorem DS.blocks {w w' : World} {B p : Nat} {tv : Value} {s : Sc} (h : DS w B p tv s) (hp : w'.heap[p]? = w.heap[p]?) (ho : ∀ g, tv.ownBlock = some g → w'.heap[g]? = w.heap[g]?) : DS w' B p tv s := by
  obtain ⟨es, d, h1, h2⟩ := h
  exact ⟨es, d, ⟨by rw [hp]; exact h1.blk, own_block h1.own ho, h1.le⟩, h2⟩
theorem ScP.blocks {w w' : World} {a : Nat → Addr} {B p : Nat} {ov : Value} {s : Sc} (h : ScP w a B p ov s) (hp : w'.heap[p]? = w.heap[p]?) (ho : ∀ g, ov.ownBlock = some g → w'.heap[g]? = w.heap[g]?) : ScP w' a B p ov s :=
  ⟨⟨by rw [hp]; exact h.sc.blk, own_block h.sc.own ho, h.sc.le⟩, h.good⟩
theorem DRel.ends {m : Md} {t : St} {d : Dc} {es : List Int} {k : Nat} (h : DRel m t d es k) (e : Bool) : DRel m { t with ends := e } d es k := by
  obtain ⟨n, h1, h2, h3, h4⟩ := h
  refine ⟨n, h1, ⟨h2.md, h2.op, h2.wd, h2.ky, h2.fe, h2.fk⟩, h3, fun e6 => ?_⟩
  obtain ⟨σ, g1, g2⟩ := h4 e6
  refine ⟨σ, ?_, g2⟩
  cases m <;> exact g1
theorem DRel.cells {m : Md} {t : St} {d d' : Dc} {es : List Int} {k : Nat} (h : DRel m t d es k) (e : d' = { d with size := d'.size, code := d'.code, at_ := d'.at_ }) : DRel m t d' es k := by
  rw [e]
  exact h
theorem DcS.f15 {w : World} {B p : Nat} {tv : Value} {es : List Int} {d : Dc} (H : DcS w B p tv es d) : DcS (w.setCell ⟨p, 15, none⟩ (.string ⟨#[]⟩)) B p tv es d := ⟨heap_setCell_same w p 15 _ _ _ H.blk, H.keepOwn _, H.le⟩
theorem dNew {w : World} : Calls Tryz.prog 7 #[] w fun e w' => e = .returned (.pointer (some ⟨w.heap.size, 0, none⟩)) ∧ DS w' w.heap.size w.heap.size (.slice none 0 0) sc0 ∧ Below w.heap.size w w' := by
  go_enter Tryz.func7, Tryz.ntmps7
  go_wp2
  go_ret
  refine ⟨rfl, ⟨[], ⟨0, [], 0, 0, 0, 0, 0, 0, false, [], 0, 0, 0⟩, ⟨heap_alloc_new w _, World.ownsRow_nil _ _ _ _, Nat.le_refl _⟩, rfl, rfl, rfl, rfl, fun _ => ⟨⟨⟨0, [], false, []⟩, ⟨rfl, rfl, rfl, rfl⟩, ⟨rfl, rfl, nofun, nofun, nofun, nofun⟩, fun _ => rfl, nofun⟩, rfl⟩⟩, (Below.refl _ _).alloc (Nat.le_refl _) _⟩
theorem dLen {w : World} {B p : Nat} {tv : Value} {s : Sc} (h : DS w B p tv s) : Calls Tryz.prog 18 #[.pointer (some ⟨p, 0, none⟩)] w fun e w' => e = .returned (.int .i64 s.size) ∧ w' = w := by
  obtain ⟨es, d, h1, h2, _⟩ := h
  have c12 := (dg_of h1.blk).c12
  rw [h2] at c12
  clear h1 h2
  generalize (s.size : Int) = sz at c12 ⊢
  go_enter Tryz.func18, Tryz.ntmps18
  go_wp2
  go_ret
  exact ⟨rfl, rfl⟩
theorem dDepth {w : World} {B p : Nat} {tv : Value} {s : Sc} (h : DS w B p tv s) : Calls Tryz.prog 20 #[.pointer (some ⟨p, 0, none⟩)] w fun e w' => e = .returned (.int .i64 (s.st.opn.length : Nat)) ∧ w' = w := by
  obtain ⟨es, d, h1, h2, h3, h4, h5, h6⟩ := h
  have c2 := (dg_of h1.blk).c2
  obtain ⟨sw, hsw⟩ : ∃ sw, strOfNums d.opn = sw := ⟨_, rfl⟩
  rw [hsw] at c2
  have hsz : sw.size = s.st.opn.length := by rw [← hsw, strOfNums_size, h5]; simp
  rw [← hsz]
  clear h1 h2 h3 h4 h5 h6 hsw hsz
  go_enter Tryz.func20, Tryz.ntmps20
  go_wp2
  go_ret
  exact ⟨rfl, rfl⟩
/-- what the document's calls tell -/
def fltV (c k : Int) : Value := .agg #[.int .i64 c, .int .i64 k, .string ⟨#[]⟩]
def atC (n : Nat) (k : Nat) : Int := if n = 0 then 0 else (k : Int)
theorem endM_yes {m : Md} (h : endM m = true) : dMd m = 5 ∨ dMd m = 9 ∨ dMd m = 10 ∨ dMd m = 12 ∨ dMd m = 15 := by
  cases m <;> simp [endM, dMd] at h ⊢
theorem endM_no {m : Md} (h : endM m = false) : dMd m ≠ 5 ∧ dMd m ≠ 9 ∧ dMd m ≠ 10 ∧ dMd m ≠ 12 ∧ dMd m ≠ 15 := by
  cases m <;> simp [endM, dMd] at h ⊢
set_option maxRecDepth 100000 in
set_option maxHeartbeats 2000000 in
theorem dcomplete {w : World} {B p : Nat} {tv : Value} {s : Sc} (h : DS w B p tv s) (hb : s.st.bad = 0) : Calls Tryz.prog 36 #[.pointer (some ⟨p, 0, none⟩)] w fun e w' => e = .returned (.bool (wholeB' s.st)) ∧ w' = w := by
  obtain ⟨es, d, h1, h2, h3, h4, h5, h6⟩ := h
  obtain ⟨⟨n, r1, r2, r3, r4⟩, h7⟩ := h6 hb
  have c1 := (dg_of h1.blk).c1
  have c2 := (dg_of h1.blk).c2
  rw [r1.1, r2.md] at c1
  rw [h5] at c2
  unfold wholeB'
  rw [h7]
  cases ho : s.st.opn with
  | nil =>
    rw [ho, show strOfNums (List.map (fun c => c - 2) []) = ⟨#[]⟩ from rfl] at c2
    clear h1 h2 h3 h4 h5 h6 h7 r1 r2 r3 r4 ho hb
    cases he : endM s.md with
    | true =>
      rcases endM_yes he with e | e | e | e | e
      all_goals rw [e] at c1
      all_goals clear e he
      all_goals go_enter Tryz.func36, Tryz.ntmps36
      all_goals go_wp2
      all_goals go_ret
      all_goals exact ⟨rfl, rfl⟩
    | false =>
      obtain ⟨g5, g9, g10, g12, g15⟩ := endM_no he
      obtain ⟨M, hM⟩ : ∃ M : Int, ((dMd s.md : Nat) : Int) = M := ⟨_, rfl⟩
      rw [hM] at c1
      have b5 : (M == 5) = false := by simp; omega
      have b9 : (M == 9) = false := by simp; omega
      have b10 : (M == 10) = false := by simp; omega
      have b12 : (M == 12) = false := by simp; omega
      have b15 : (M == 15) = false := by simp; omega
      clear g5 g9 g10 g12 g15 hM he
      go_enter Tryz.func36, Tryz.ntmps36
      go_wp2
      go_ret
      exact ⟨rfl, rfl⟩
  | cons x l =>
    rw [ho] at c2
    have hne : (strOfNums (List.map (fun c => c - 2) (x :: l))).toList.isEmpty = false := jtxt_full (by rw [strOfNums_size]; simp)
    generalize strOfNums (List.map (fun c => c - 2) (x :: l)) = sw at c2 hne
    have e : (endM s.md && (x :: l).isEmpty) = false := by simp
    rw [e]
    clear h1 h2 h3 h4 h5 h6 h7 r1 r2 r3 r4 ho hb e
    generalize ((dMd s.md : Nat) : Int) = M at c1
    go_enter Tryz.func36, Tryz.ntmps36
    go_wp2
    go_ret
    exact ⟨rfl, rfl⟩
set_option maxRecDepth 100000 in
set_option maxHeartbeats 2000000 in
theorem dClose {w : World} {B p : Nat} {tv : Value} {s : Sc} (h : DS w B p tv s) (hw : s.st.bad ≤ 11) : Calls Tryz.prog 16 #[.pointer (some ⟨p, 0, none⟩)] w fun e w' => e = .returned (fltV (codeC s) (atC (codeC s) s.size)) ∧ Below w.heap.size w w' := by
  have hlt := h.lt
  have hne : ¬ (p = w.heap.size) := by omega
  have hbl : Below w.heap.size w (w.alloc (.cells #[.int .i64 0, .int .i64 0, .string ⟨#[]⟩] 39)) := (Below.refl _ _).alloc (Nat.le_refl _) _
  have CC := hide (fun hb => dcomplete (h.below hbl) hb)
  have HBL := hide hbl
  obtain ⟨es, d, h1, h2, h3, h4, h5, h6⟩ := h
  have c0 := (dg_of h1.blk).c0
  have c12 := (dg_of h1.blk).c12
  have c13 := (dg_of h1.blk).c13
  have c14 := (dg_of h1.blk).c14
  have c15 := (dg_of h1.blk).c15
  rw [h2] at c12
  rw [h3] at c13
  rw [h4] at c14
  clear h1 h2 h3 h4 h5 h6 hbl
  by_cases hb : s.st.bad = 0
  · have C := hide (CC.out hb)
    rw [hb] at c13 c14
    simp only [if_true] at c14
    obtain ⟨SZ, hSZ⟩ : ∃ SZ : Int, (s.size : Int) = SZ := ⟨_, rfl⟩
    rw [hSZ] at c12
    cases hwh : wholeB' s.st with
    | true =>
      have E : codeC s = 0 := by simp [codeC, hb, hwh]
      rw [E, show atC 0 s.size = 0 from rfl]
      rw [hwh] at C
      clear E CC hb hSZ hwh
      go_enter Tryz.func16, Tryz.ntmps16
      go_wp2_with fail
      refine C.out.mono ?_
      rintro e w1 ⟨rfl, rfl⟩
      clear C
      go_wp2
      refine bodyPost_ret (v := fltV 0 0) (by rw [jresults_cell rfl]; simp only [fltV]; go_simp) rfl ⟨rfl, (Below.refl _ _).alloc (Nat.le_refl _) _⟩
    | false =>
      have E : codeC s = 3 := by simp [codeC, hb, hwh]
      rw [E, show atC 3 s.size = SZ by simp [atC, hSZ]]
      rw [hwh] at C
      clear E CC hb hSZ hwh
      go_enter Tryz.func16, Tryz.ntmps16
      go_wp2_with fail
      refine C.out.mono ?_
      rintro e w1 ⟨rfl, rfl⟩
      clear C
      go_wp2
      refine bodyPost_ret (v := fltV 3 SZ) (by rw [jresults_cell rfl]; simp only [fltV]; go_simp) rfl ⟨rfl, (Below.refl _ _).alloc (Nat.le_refl _) _⟩
  · have E : codeC s = s.st.bad := by simp [codeC, hb]
    rw [E]
    rw [if_neg hb] at c14
    have e2 : atC s.st.bad s.size = (s.size : Int) := by simp [atC, hb]
    rw [e2]
    obtain ⟨SZ, hSZ⟩ : ∃ SZ : Int, (s.size : Int) = SZ := ⟨_, rfl⟩
    obtain ⟨CD, hCD⟩ : ∃ CD : Int, (s.st.bad : Int) = CD := ⟨_, rfl⟩
    rw [hSZ] at c12 c14 ⊢
    rw [hCD] at c13 ⊢
    have hcd : (CD == 0) = false := by simp; omega
    clear E CC hb hSZ hCD e2 hw
    go_enter Tryz.func16, Tryz.ntmps16
    go_wp2
    refine bodyPost_ret (v := fltV CD SZ) (by rw [jresults_cell rfl]; simp only [fltV]; go_simp) rfl ⟨rfl, (Below.refl _ _).alloc (Nat.le_refl _) _⟩

end Go.Proofs.YtefmlajndillbaaGreatDoor
