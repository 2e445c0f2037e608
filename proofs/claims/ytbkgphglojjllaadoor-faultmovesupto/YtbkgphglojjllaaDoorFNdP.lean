/- every path of the nodes is of the reading's size -/
import Derived.Test.YtbkgphglojjllaaDoorFNdOpen
import Derived.Test.YtbkgphglojjllaaDoorFNdM
namespace Go.Proofs.YtbkgphglojjllaaDoor
open Go.ChangeShapes Go.WideShapes Go.ChangeAt Go.RowKit Go.Deep
set_option linter.unusedVariables false

/-- every path in it is of at most reachBytes -/
inductive NdSm : Nd → Prop
  | mk (x : Nd) (hp : x.path.size ≤ 140737488351232) (hk : ∀ i (h : i < x.kids.length), NdSm x.kids[i]) : NdSm x
theorem NdSm.path {x : Nd} (h : NdSm x) : x.path.size ≤ 140737488351232 := by cases h; assumption
theorem NdSm.kid {x : Nd} (h : NdSm x) : ∀ i (h : i < x.kids.length), NdSm x.kids[i] := by cases h; assumption
theorem anyF_mem {l : List Nd} {y : Nd} (h : anyF l = some y) : ∃ x ∈ l, ndF x = some y := by
  induction l with
  | nil => simp [anyF] at h
  | cons x l ih =>
    rw [anyF] at h
    cases hx : ndF x with
    | some z => rw [hx] at h; cases h; exact ⟨x, List.mem_cons_self .., hx⟩
    | none =>
      rw [hx] at h
      obtain ⟨z, h1, h2⟩ := ih h
      exact ⟨z, List.mem_cons_of_mem _ h1, h2⟩
theorem sm_first : ∀ (N : Nat) (x : Nd), SizeOf.sizeOf x ≤ N → NdSm x → ∀ y, ndF x = some y → NdSm y := by
  intro N
  induction N with
  | zero => intro x hx; cases x; simp at hx
  | succ N ih =>
    intro x hx h y hy
    rw [ndF_eq] at hy
    split at hy
    · cases hy; exact h
    · split at hy
      · cases hks : x.kids with
        | nil => rw [hks] at hy; simp [hdF] at hy
        | cons z l =>
          have h0 : 0 < x.kids.length := by rw [hks]; simp
          have e0 : x.kids[0] = z := by simp [hks]
          rw [hks] at hy
          simp only [hdF] at hy
          rw [← e0] at hy
          exact ih _ (by have := Nd.kid_lt h0; omega) (h.kid 0 h0) y hy
      · split at hy
        · obtain ⟨z, hz, hf⟩ := anyF_mem hy
          obtain ⟨i, hi, e⟩ := List.getElem_of_mem hz
          rw [← e] at hf
          exact ih _ (by have := Nd.kid_lt hi; omega) (h.kid i hi) y hf
        · cases hy
set_option maxRecDepth 100000 in
theorem nd_readS {H : Type} {enc : TypeId × Value → H} {W : World} {b0 : Nat} {held : Bool} : ∀ (N : Nat) (d : DataW H), SizeOf.sizeOf d ≤ N → (∀ n ∈ d.weights Tryd.prog 24, n ≤ reachBytes) → ∀ (fuel : Nat) (cs : List Value) (p : List MemPlace),
    DataW.trod enc Tryd.prog W b0 (fun _ => true) held fuel 24 cs = some (d, p) → ∃ (x : Nd) (v : Value), cs = [.int .i64 x.kind, .int .i64 x.code, .int .i64 x.place, .string x.path, v] ∧ NdSl W v x.kids ∧ NdSm x := by
  intro N
  induction N with
  | zero =>
    intro d hd
    cases d <;> simp at hd
  | succ N ih =>
    intro d hd hwt fuel cs p hf
    obtain ⟨xs, n, _, hx, hl, hlen, hfs⟩ := DataW.trod_struct Tryd.underlying24 hf
    rw [cellsNode] at hl
    obtain ⟨c0, c1, c2, c3, c4, rfl⟩ : ∃ c0 c1 c2 c3 c4, cs = [c0, c1, c2, c3, c4] := by
      match cs, hl with
      | [c0, c1, c2, c3, c4], _ => exact ⟨c0, c1, c2, c3, c4, rfl⟩
    match xs, hlen, hx, hfs with
    | [y0, y1, y2, y3, y4], _, hx, hfs =>
      have f0 := hfs 0 _ rfl
      have f1 := hfs 1 _ rfl
      have f2 := hfs 2 _ rfl
      have f3 := hfs 3 _ rfl
      have f4 := hfs 4 _ rfl
      have g0 : DataW.trod enc Tryd.prog W b0 (fun _ => true) held n 3 [c0] = some y0 := by simpa [cellsNi] using f0
      have g1 : DataW.trod enc Tryd.prog W b0 (fun _ => true) held n 3 [c1] = some y1 := by simpa [cellsNi] using f1
      have g2 : DataW.trod enc Tryd.prog W b0 (fun _ => true) held n 3 [c2] = some y2 := by simpa [cellsNi] using f2
      have g3 : DataW.trod enc Tryd.prog W b0 (fun _ => true) held n 9 [c3] = some y3 := by simpa [cellsNs] using f3
      have g4 : DataW.trod enc Tryd.prog W b0 (fun _ => true) held n 22 [c4] = some y4 := by simpa [cellsNk] using f4
      obtain ⟨m0, hc0, _, _⟩ := DataW.trod_int Tryd.underlying3 g0
      obtain ⟨m1, hc1, _, _⟩ := DataW.trod_int Tryd.underlying3 g1
      obtain ⟨m2, hc2, _, _⟩ := DataW.trod_int Tryd.underlying3 g2
      obtain ⟨s3, hc3, hy3, _⟩ := DataW.trod_string Tryd.underlying9 g3
      simp at hc0 hc1 hc2 hc3
      subst hc0 hc1 hc2 hc3
      have hdd : d = .agg [y0.1, y1.1, y2.1, y3.1, y4.1] := (Prod.mk.inj hx).1
      have hy4 : SizeOf.sizeOf y4.1 < SizeOf.sizeOf d := by
        rw [hdd]; simp; omega
      have hw4 : ∀ n ∈ y4.1.weights Tryd.prog 22, n ≤ reachBytes := fun n hn => hwt n (by
        rw [hdd, DataW.weights, Tryd.underlying24]
        exact DataW.weights_mem_each (j := 4) rfl rfl n hn)
      have hp3 : s3.size ≤ 140737488351232 := by
        have := hwt s3.data.toList.length (by
          rw [hdd, DataW.weights, Tryd.underlying24]
          exact DataW.weights_mem_each (j := 3) rfl rfl _ (by rw [hy3]; simp [DataW.weights]))
        rw [reachIs] at this
        rw [Lib.size_eq]; exact this
      suffices hs : ∃ ks : List Nd, NdSl W c4 ks ∧ ∀ i (h : i < ks.length), NdSm ks[i] by
        obtain ⟨ks, hs, hsk⟩ := hs
        exact ⟨.mk m0 m1 m2 s3 ks, c4, rfl, hs, .mk _ hp3 hsk⟩
      rcases open_slice Tryd.underlying22 g4 with ⟨hcs, _⟩ | ⟨x, l, c, m, n2, D, Pl, hcs, _, hlc, hm, hmm, hx4, hcell⟩
      · simp at hcs
        subst hcs
        exact ⟨[], .mk none 0 [] (fun _ => .nilIface) (Nat.le_refl _) (by unfold maxLen; omega) (by simp) (fun _ => rfl) (fun h => absurd h (by simp)) (fun i h => absurd h (by simp)), fun i h => absurd h (by simp)⟩
      · simp at hcs
        subst hcs
        have hmc : m = c := by simpa using hmm
        rw [cellsNode] at hcell
        rw [hx4] at hw4
        simp only [DataW.weights, Tryd.underlying22] at hw4
        have hlen0 : l ≤ 2199023255552 := by
          have h1 := hw4 _ (List.mem_cons_self ..)
          rw [List.length_map, List.length_range, bytesNode, reachIs] at h1
          omega
        have each : ∀ i, i < l → ∃ q : Nd × Value, (∀ j, j < 5 → W.cell? ((x.add (i * 5)).add j) = [Value.int .i64 q.1.kind, .int .i64 q.1.code, .int .i64 q.1.place, .string q.1.path, q.2][j]?) ∧ NdSl W q.2 q.1.kids ∧ NdSm q.1 := fun i hi => by
          obtain ⟨cs', e1, e2⟩ := hcell i (by omega)
          have hsd : SizeOf.sizeOf (D i) < SizeOf.sizeOf y4.1 := by
            rw [hx4]
            have hm : D i ∈ (List.range l).map D := List.mem_map.2 ⟨i, List.mem_range.2 hi, rfl⟩
            have := List.sizeOf_lt_of_mem hm
            simp only [DataW.slice.sizeOf_spec]
            omega
          obtain ⟨y, v, rfl, hv, hsm⟩ := ih (D i) (by omega) (fun n hn => hw4 n (List.mem_cons_of_mem _ (List.mem_append_left _ (weights_all (List.mem_map.2 ⟨i, List.mem_range.2 hi, rfl⟩) n hn)))) n2 cs' (Pl i) e2
          obtain ⟨_, _, hce⟩ := World.cells?_some e1
          exact ⟨(y, v), fun j hj => hce j hj, hv, hsm⟩
        obtain ⟨Q, hQ⟩ := choose_lt each
        have hlen2 : ((List.range l).map fun i => (Q i).1).length = l := by simp
        refine ⟨(List.range l).map fun i => (Q i).1, ?_, fun i hi => by
          rw [hlen2] at hi
          simp only [List.getElem_map, List.getElem_range]
          exact (hQ i hi).2.2⟩
        have key := NdSl.mk (w := W) (some x) c ((List.range l).map fun i => (Q i).1) (fun i => (Q i).2) (by rw [hlen2]; exact hlc) hm (by rw [hlen2]; exact hlen0) (fun h => by cases h) (fun hp => by
          rw [hlen2] at hp
          have h0 := (hQ 0 hp).1 0 (by omega)
          obtain ⟨b, off, spot⟩ := x
          have hspot : spot = none := by simpa [Addr.add] using World.cell?_spot h0
          subst hspot
          refine ⟨b, off, rfl, by simpa [Addr.add] using ncell_lt h0, fun i hi => ?_⟩
          rw [hlen2] at hi
          have hq := (hQ i hi).1
          simp only [List.getElem_map, List.getElem_range]
          refine ⟨?_, ?_, ?_, ?_, ?_⟩
          · have := hq 0 (by omega); rw [Addr.add_lit, Addr.add_lit] at this; exact this
          · have := hq 1 (by omega); rw [Addr.add_lit, Addr.add_lit] at this; exact this
          · have := hq 2 (by omega); rw [Addr.add_lit, Addr.add_lit] at this; exact this
          · have := hq 3 (by omega); rw [Addr.add_lit, Addr.add_lit] at this; exact this
          · have := hq 4 (by omega); rw [Addr.add_lit, Addr.add_lit] at this; exact this) (fun i hi => by
          rw [hlen2] at hi
          simp only [List.getElem_map, List.getElem_range]
          exact (hQ i hi).2.1)
        rw [hlen2] at key
        exact key
set_option maxRecDepth 100000 in
theorem open_nodeS {H : Type} {enc : TypeId × Value → H} {W : World} {base b0 : Nat} {held : Bool} {v : Value} {d : DataW H} {p : List MemPlace} (hv : Value.okWide Tryd.prog W .any base 24 v)
    (h : ∃ n, DataW.trod enc Tryd.prog W b0 (fun _ => true) held n 24 v.cells.toList = some (d, p)) (hw : ∀ n ∈ d.weights Tryd.prog 24, n ≤ reachBytes) : ∃ (x : Nd) (vk : Value), v = ndV x vk ∧ NdSl W vk x.kids ∧ NdSm x := by
  obtain ⟨cs, rfl, hcz⟩ := okWide_struct Tryd.underlying24 hv
  obtain ⟨fuel, hf⟩ := h
  obtain ⟨x, vk, hcs, hn, hsm⟩ := nd_readS _ d (Nat.le_refl _) hw fuel _ p hf
  refine ⟨x, vk, ?_, hn, hsm⟩
  have e : cs.toList = [.int .i64 x.kind, .int .i64 x.code, .int .i64 x.place, .string x.path, vk] := by simpa [Value.cells] using hcs
  have e2 : cs = #[.int .i64 x.kind, .int .i64 x.code, .int .i64 x.place, .string x.path, vk] := by
    cases cs; simp at e; rw [e]
  rw [e2]; rfl

end Go.Proofs.YtbkgphglojjllaaDoor
