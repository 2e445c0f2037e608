/- trees of nodes: what they are, how they lie in memory, how the argument is read -/
import Derived.Test.YtbkgphglojjllaaDoorFLives
import Derived.Test.YtbkgphglojjllaaDoorRows
import Derived.ProofKit
import Derived.OpenShut
import Derived.ChangeOld
import Derived.SizedLaws
import Derived.ChangeSame
import Derived.Deep.Slices
namespace Go.Proofs.YtbkgphglojjllaaDoor
open Go.ChangeShapes Go.WideShapes Go.ChangeAt Go.RowKit Go.Deep
set_option linter.unusedVariables false

inductive Nd where
  | mk (kind code place : Int) (path : ByteArray) (kids : List Nd)
instance : Inhabited Nd := ⟨.mk 0 0 0 ⟨#[]⟩ []⟩
def Nd.kind : Nd → Int | .mk k _ _ _ _ => k
def Nd.code : Nd → Int | .mk _ c _ _ _ => c
def Nd.place : Nd → Int | .mk _ _ a _ _ => a
def Nd.path : Nd → ByteArray | .mk _ _ _ p _ => p
def Nd.kids : Nd → List Nd | .mk _ _ _ _ ks => ks
theorem Nd.kid_lt {x : Nd} {i : Nat} (h : i < x.kids.length) : SizeOf.sizeOf x.kids[i] < SizeOf.sizeOf x := by
  cases x with
  | mk k c a p ks =>
    have h1 : SizeOf.sizeOf ks[i] < SizeOf.sizeOf ks := List.sizeOf_lt_of_mem (List.getElem_mem h)
    simp only [Nd.kids, Nd.mk.sizeOf_spec]
    omega
/-- a node as a value, its kids' value beside -/
def ndV (x : Nd) (v : Value) : Value := .agg #[.int .i64 x.kind, .int .i64 x.code, .int .i64 x.place, .string x.path, v]
/-- the five cells of a node -/
structure NdC (w : World) (b o : Nat) (x : Nd) (v : Value) : Prop where
  c0 : w.cell? ⟨b, o, none⟩ = some (.int .i64 x.kind)
  c1 : w.cell? ⟨b, o + 1, none⟩ = some (.int .i64 x.code)
  c2 : w.cell? ⟨b, o + 2, none⟩ = some (.int .i64 x.place)
  c3 : w.cell? ⟨b, o + 3, none⟩ = some (.string x.path)
  c4 : w.cell? ⟨b, o + 4, none⟩ = some v
theorem NdC.below {w w' : World} {b o : Nat} {x : Nd} {v : Value} (h : NdC w b o x v) (hb : Below w.heap.size w w') (hl : b < w.heap.size) : NdC w' b o x v :=
  ⟨(hb.cell (p := ⟨b, _, none⟩) hl).trans h.c0, (hb.cell (p := ⟨b, _, none⟩) hl).trans h.c1, (hb.cell (p := ⟨b, _, none⟩) hl).trans h.c2, (hb.cell (p := ⟨b, _, none⟩) hl).trans h.c3, (hb.cell (p := ⟨b, _, none⟩) hl).trans h.c4⟩
/-- the value is a list of these nodes -/
inductive NdSl (w : World) : Value → List Nd → Prop
  | mk (ao : Option Addr) (cap : Nat) (xs : List Nd) (vs : Nat → Value) (hc : xs.length ≤ cap) (hm : cap ≤ maxLen) (hl : xs.length ≤ 2199023255552) (hn : ao = none → cap = 0)
      (hx : 0 < xs.length → ∃ b off, ao = some ⟨b, off, none⟩ ∧ b < w.heap.size ∧ ∀ i (h : i < xs.length), NdC w b (off + i * 5) xs[i] (vs i))
      (hk : ∀ i (h : i < xs.length), NdSl w (vs i) xs[i].kids) : NdSl w (.slice ao xs.length cap) xs
theorem NdSl.far {w w' : World} {v : Value} {xs : List Nd} (h : NdSl w v xs) (hb : Below w.heap.size w w') : NdSl w' v xs := by
  induction h with
  | mk ao cap xs vs hc hm hl hn hx hk ih =>
    refine .mk ao cap xs vs hc hm hl hn (fun hp => ?_) ih
    obtain ⟨b, off, h1, h2, h3⟩ := hx hp
    exact ⟨b, off, h1, Nat.lt_of_lt_of_le h2 hb.size, fun i hi => (h3 i hi).below hb h2⟩
theorem ncell_lt {W : World} {p : Addr} {v : Value} (h : W.cell? p = some v) : p.block < W.heap.size := by
  rcases Nat.lt_or_ge p.block W.heap.size with g | g
  · exact g
  · simp [World.cell?, Array.getElem?_eq_none g] at h
theorem cellsNode : Tryd.prog.cellsOf 24 = 5 := by kernel_rfl
theorem cellsNi : Tryd.prog.cellsOf 3 = 1 := by kernel_rfl
theorem cellsNs : Tryd.prog.cellsOf 9 = 1 := by kernel_rfl
theorem cellsNk : Tryd.prog.cellsOf 22 = 1 := by kernel_rfl
theorem bytesNode : Tryd.prog.bytesOf 24 = 64 := by kernel_rfl
theorem reachIs : reachBytes = 140737488351232 := rfl
theorem weights_all {H : Type} {P : Program} {e : TypeId} {d : DataW H} {l : List (DataW H)} (h : d ∈ l) : ∀ n ∈ d.weights P e, n ∈ DataW.weightsAll P e l := by
  induction l with
  | nil => cases h
  | cons x l ih =>
    intro n hn
    rw [DataW.weightsAll]
    rcases List.mem_cons.1 h with rfl | h
    · exact List.mem_append_left _ hn
    · exact List.mem_append_right _ (ih h n hn)
set_option maxRecDepth 100000 in
theorem nd_read {H : Type} {enc : TypeId × Value → H} {W : World} {b0 : Nat} {held : Bool} : ∀ (N : Nat) (d : DataW H), SizeOf.sizeOf d ≤ N → (∀ n ∈ d.weights Tryd.prog 24, n ≤ reachBytes) → ∀ (fuel : Nat) (cs : List Value) (p : List MemPlace),
    DataW.trod enc Tryd.prog W b0 (fun _ => true) held fuel 24 cs = some (d, p) → ∃ (x : Nd) (v : Value), cs = [.int .i64 x.kind, .int .i64 x.code, .int .i64 x.place, .string x.path, v] ∧ NdSl W v x.kids := by
  intro N
  induction N with
  | zero =>
    intro d hd
    cases d <;> simp at hd
  | succ N ih =>
    intro d hd hwt fuel cs p hf
    obtain ⟨xs, n, _, hx, hl, hlen, hfs⟩ := DataW.trod_struct Tryd.underlying24 hf
    rw [cellsNode] at hl
    obtain ⟨c0, c1, c2, c3, c4, rfl⟩ : ∃ c0 c1 c2 c3 c4, cs = [c0, c1, c2, c3, c4] := by
      match cs, hl with
      | [c0, c1, c2, c3, c4], _ => exact ⟨c0, c1, c2, c3, c4, rfl⟩
    match xs, hlen, hx, hfs with
    | [y0, y1, y2, y3, y4], _, hx, hfs =>
      have f0 := hfs 0 _ rfl
      have f1 := hfs 1 _ rfl
      have f2 := hfs 2 _ rfl
      have f3 := hfs 3 _ rfl
      have f4 := hfs 4 _ rfl
      have g0 : DataW.trod enc Tryd.prog W b0 (fun _ => true) held n 3 [c0] = some y0 := by simpa [cellsNi] using f0
      have g1 : DataW.trod enc Tryd.prog W b0 (fun _ => true) held n 3 [c1] = some y1 := by simpa [cellsNi] using f1
      have g2 : DataW.trod enc Tryd.prog W b0 (fun _ => true) held n 3 [c2] = some y2 := by simpa [cellsNi] using f2
      have g3 : DataW.trod enc Tryd.prog W b0 (fun _ => true) held n 9 [c3] = some y3 := by simpa [cellsNs] using f3
      have g4 : DataW.trod enc Tryd.prog W b0 (fun _ => true) held n 22 [c4] = some y4 := by simpa [cellsNk] using f4
      obtain ⟨m0, hc0, _, _⟩ := DataW.trod_int Tryd.underlying3 g0
      obtain ⟨m1, hc1, _, _⟩ := DataW.trod_int Tryd.underlying3 g1
      obtain ⟨m2, hc2, _, _⟩ := DataW.trod_int Tryd.underlying3 g2
      obtain ⟨s3, hc3, _, _⟩ := DataW.trod_string Tryd.underlying9 g3
      simp at hc0 hc1 hc2 hc3
      subst hc0 hc1 hc2 hc3
      have hdd : d = .agg [y0.1, y1.1, y2.1, y3.1, y4.1] := (Prod.mk.inj hx).1
      have hy4 : SizeOf.sizeOf y4.1 < SizeOf.sizeOf d := by
        rw [hdd]; simp; omega
      have hw4 : ∀ n ∈ y4.1.weights Tryd.prog 22, n ≤ reachBytes := fun n hn => hwt n (by
        rw [hdd, DataW.weights, Tryd.underlying24]
        exact DataW.weights_mem_each (j := 4) rfl rfl n hn)
      suffices hs : ∃ ks, NdSl W c4 ks by
        obtain ⟨ks, hs⟩ := hs
        exact ⟨.mk m0 m1 m2 s3 ks, c4, rfl, hs⟩
      rcases open_slice Tryd.underlying22 g4 with ⟨hcs, _⟩ | ⟨x, l, c, m, n2, D, Pl, hcs, _, hlc, hm, hmm, hx4, hcell⟩
      · simp at hcs
        subst hcs
        exact ⟨[], .mk none 0 [] (fun _ => .nilIface) (Nat.le_refl _) (by unfold maxLen; omega) (by simp) (fun _ => rfl) (fun h => absurd h (by simp)) (fun i h => absurd h (by simp))⟩
      · simp at hcs
        subst hcs
        have hmc : m = c := by simpa using hmm
        rw [cellsNode] at hcell
        rw [hx4] at hw4
        simp only [DataW.weights, Tryd.underlying22] at hw4
        have hlen0 : l ≤ 2199023255552 := by
          have h1 := hw4 _ (List.mem_cons_self ..)
          rw [List.length_map, List.length_range, bytesNode, reachIs] at h1
          omega
        have each : ∀ i, i < l → ∃ q : Nd × Value, (∀ j, j < 5 → W.cell? ((x.add (i * 5)).add j) = [Value.int .i64 q.1.kind, .int .i64 q.1.code, .int .i64 q.1.place, .string q.1.path, q.2][j]?) ∧ NdSl W q.2 q.1.kids := fun i hi => by
          obtain ⟨cs', e1, e2⟩ := hcell i (by omega)
          have hsd : SizeOf.sizeOf (D i) < SizeOf.sizeOf y4.1 := by
            rw [hx4]
            have hm : D i ∈ (List.range l).map D := List.mem_map.2 ⟨i, List.mem_range.2 hi, rfl⟩
            have := List.sizeOf_lt_of_mem hm
            simp only [DataW.slice.sizeOf_spec]
            omega
          obtain ⟨y, v, rfl, hv⟩ := ih (D i) (by omega) (fun n hn => hw4 n (List.mem_cons_of_mem _ (List.mem_append_left _ (weights_all (List.mem_map.2 ⟨i, List.mem_range.2 hi, rfl⟩) n hn)))) n2 cs' (Pl i) e2
          obtain ⟨_, _, hce⟩ := World.cells?_some e1
          exact ⟨(y, v), fun j hj => hce j hj, hv⟩
        obtain ⟨Q, hQ⟩ := choose_lt each
        have hlen2 : ((List.range l).map fun i => (Q i).1).length = l := by simp
        refine ⟨(List.range l).map fun i => (Q i).1, ?_⟩
        have key := NdSl.mk (w := W) (some x) c ((List.range l).map fun i => (Q i).1) (fun i => (Q i).2) (by rw [hlen2]; exact hlc) hm (by rw [hlen2]; exact hlen0) (fun h => by cases h) (fun hp => by
          rw [hlen2] at hp
          have h0 := (hQ 0 hp).1 0 (by omega)
          obtain ⟨b, off, spot⟩ := x
          have hspot : spot = none := by simpa [Addr.add] using World.cell?_spot h0
          subst hspot
          refine ⟨b, off, rfl, by simpa [Addr.add] using ncell_lt h0, fun i hi => ?_⟩
          rw [hlen2] at hi
          have hq := (hQ i hi).1
          simp only [List.getElem_map, List.getElem_range]
          refine ⟨?_, ?_, ?_, ?_, ?_⟩
          · have := hq 0 (by omega); rw [Addr.add_lit, Addr.add_lit] at this; exact this
          · have := hq 1 (by omega); rw [Addr.add_lit, Addr.add_lit] at this; exact this
          · have := hq 2 (by omega); rw [Addr.add_lit, Addr.add_lit] at this; exact this
          · have := hq 3 (by omega); rw [Addr.add_lit, Addr.add_lit] at this; exact this
          · have := hq 4 (by omega); rw [Addr.add_lit, Addr.add_lit] at this; exact this) (fun i hi => by
          rw [hlen2] at hi
          simp only [List.getElem_map, List.getElem_range]
          exact (hQ i hi).2)
        rw [hlen2] at key
        exact key

end Go.Proofs.YtbkgphglojjllaaDoor
