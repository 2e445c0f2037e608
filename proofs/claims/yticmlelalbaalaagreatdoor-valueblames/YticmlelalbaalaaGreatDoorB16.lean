import Derived.Test.YticmlelalbaalaaGreatDoorB01
import Derived.Test.YticmlelalbaalaaGreatDoorB02
import Derived.Test.YticmlelalbaalaaGreatDoorB03
import Derived.Test.YticmlelalbaalaaGreatDoorRows
import Derived.ProofKit
import Derived.OpenShut
import Derived.ChangeOld
import Derived.SizedLaws
import Derived.ChangeSame
import Derived.Deep.Slices
namespace Go.Proofs.YticmlelalbaalaaGreatDoor
open Go.ChangeShapes Go.WideShapes Go.ChangeAt Go.RowKit Go.Deep
set_option linter.unusedVariables false
structure VaW (x : Va) : Prop where
  k0 : -128 ≤ x.kind
  k1 : x.kind ≤ 127
  n0 : 0 ≤ x.n
  n1 : x.n < 18446744073709551616
  b0 : 0 ≤ x.bits
  b1 : x.bits < 18446744073709551616
  e0 : -128 ≤ x.ext
  e1 : x.ext ≤ 127
  t : Byt x.text
  tl : x.text.length ≤ 140737488355328
  m : Nt.Ok x.mag
  ml : x.mag.length ≤ 35184372088832
def vaL (x : Va) (vm vk : Value) : List Value := [.int .i8 x.kind, .int .u64 x.n, .bool x.neg, vm, .int .u64 x.bits, .int .i8 x.ext, .string (strOfNums x.text), vk]
def vaV (x : Va) (vm vk : Value) : Value := .agg #[.int .i8 x.kind, .int .u64 x.n, .bool x.neg, vm, .int .u64 x.bits, .int .i8 x.ext, .string (strOfNums x.text), vk]
structure VaC (w : World) (b o : Nat) (x : Va) (vm vk : Value) : Prop where
  c0 : w.cell? ⟨b, o, none⟩ = some (.int .i8 x.kind)
  c1 : w.cell? ⟨b, o + 1, none⟩ = some (.int .u64 x.n)
  c2 : w.cell? ⟨b, o + 2, none⟩ = some (.bool x.neg)
  c3 : w.cell? ⟨b, o + 3, none⟩ = some vm
  c4 : w.cell? ⟨b, o + 4, none⟩ = some (.int .u64 x.bits)
  c5 : w.cell? ⟨b, o + 5, none⟩ = some (.int .i8 x.ext)
  c6 : w.cell? ⟨b, o + 6, none⟩ = some (.string (strOfNums x.text))
  c7 : w.cell? ⟨b, o + 7, none⟩ = some vk
theorem VaC.below {w w' : World} {b o : Nat} {x : Va} {vm vk : Value} (h : VaC w b o x vm vk) (hb : Below w.heap.size w w') (hl : b < w.heap.size) : VaC w' b o x vm vk :=
  ⟨(hb.cell (p := ⟨b, _, none⟩) hl).trans h.c0, (hb.cell (p := ⟨b, _, none⟩) hl).trans h.c1, (hb.cell (p := ⟨b, _, none⟩) hl).trans h.c2, (hb.cell (p := ⟨b, _, none⟩) hl).trans h.c3, (hb.cell (p := ⟨b, _, none⟩) hl).trans h.c4, (hb.cell (p := ⟨b, _, none⟩) hl).trans h.c5, (hb.cell (p := ⟨b, _, none⟩) hl).trans h.c6, (hb.cell (p := ⟨b, _, none⟩) hl).trans h.c7⟩
inductive VaSl (w : World) : Value → List Va → Prop
  | mk (ao : Option Addr) (cap : Nat) (xs : List Va) (ms vs : Nat → Value) (hc : xs.length ≤ cap) (hm : cap ≤ maxLen) (hl : xs.length ≤ 2199023255552) (hn : ao = none → cap = 0)
      (hx : 0 < xs.length → ∃ b off, ao = some ⟨b, off, none⟩ ∧ b < w.heap.size ∧ ∀ i (h : i < xs.length), VaC w b (off + i * 8) xs[i] (ms i) (vs i))
      (hg : ∀ i (h : i < xs.length), Reads .u32 w (ms i) xs[i].mag ∧ VaW xs[i])
      (hk : ∀ i (h : i < xs.length), VaSl w (vs i) xs[i].kids) : VaSl w (.slice ao xs.length cap) xs
structure VaRd (w : World) (v : Value) (x : Va) : Prop where
  ex : ∃ vm vk, v = vaV x vm vk ∧ Reads .u32 w vm x.mag ∧ VaSl w vk x.kids
  wf : VaW x
theorem VaSl.far {w w' : World} {v : Value} {xs : List Va} (h : VaSl w v xs) (hb : Below w.heap.size w w') : VaSl w' v xs := by
  induction h with
  | mk ao cap xs ms vs hc hm hl hn hx hg hk ih =>
    refine .mk ao cap xs ms vs hc hm hl hn (fun hp => ?_) (fun i hi => ⟨(hg i hi).1.below hb, (hg i hi).2⟩) ih
    obtain ⟨b, off, h1, h2, h3⟩ := hx hp
    exact ⟨b, off, h1, Nat.lt_of_lt_of_le h2 hb.size, fun i hi => (h3 i hi).below hb h2⟩
theorem VaRd.far {w w' : World} {v : Value} {x : Va} (h : VaRd w v x) (hb : Below w.heap.size w w') : VaRd w' v x := by
  obtain ⟨⟨vm, vk, h1, h2, h3⟩, h4⟩ := h
  exact ⟨⟨vm, vk, h1, h2.below hb, h3.far hb⟩, h4⟩
theorem VaSl.at {w : World} {ao : Option Addr} {cap : Nat} {xs : List Va} {v : Value} (h : VaSl w v xs) (hv : v = .slice ao xs.length cap) {i : Nat} (hi : i < xs.length) :
    ∃ b off vm vk, ao = some ⟨b, off, none⟩ ∧ b < w.heap.size ∧ VaC w b (off + i * 8) xs[i] vm vk ∧ Reads .u32 w vm xs[i].mag ∧ VaSl w vk xs[i].kids ∧ VaW xs[i] := by
  obtain ⟨ao', cap', _, ms, vs, hc, hm, hl, hn, hx, hg, hk⟩ := h
  cases hv
  obtain ⟨b, off, h1, h2, h3⟩ := hx (by omega)
  exact ⟨b, off, ms i, vs i, h1, h2, h3 i hi, (hg i hi).1, hk i hi, (hg i hi).2⟩
theorem VaSl.small {w : World} {v : Value} {xs : List Va} (h : VaSl w v xs) : xs.length ≤ 2199023255552 := by
  obtain ⟨ao', cap', _, ms, vs, hc, hm, hl, hn, hx, hg, hk⟩ := h
  exact hl
theorem VaSl.len {w : World} {v : Value} {xs : List Va} (h : VaSl w v xs) : ∃ ao cap, v = .slice ao xs.length cap ∧ xs.length ≤ cap ∧ cap ≤ 9223372036854775807 := by
  obtain ⟨ao', cap', _, ms, vs, hc, hm, hl, hn, hx, hg, hk⟩ := h
  exact ⟨ao', cap', rfl, hc, hm⟩
theorem VaSl.nil (w : World) : VaSl w (.slice none 0 0) [] :=
  .mk none 0 [] (fun _ => .nilIface) (fun _ => .nilIface) (Nat.le_refl _) (by unfold maxLen; omega) (by simp) (fun _ => rfl) (fun h => absurd h (by simp)) (fun i h => absurd h (by simp)) (fun i h => absurd h (by simp))
theorem vcell_lt {W : World} {p : Addr} {v : Value} (h : W.cell? p = some v) : p.block < W.heap.size := by
  rcases Nat.lt_or_ge p.block W.heap.size with g | g
  · exact g
  · simp [World.cell?, Array.getElem?_eq_none g] at h
theorem cellsVa : Tryz.prog.cellsOf 31 = 8 := by kernel_rfl
theorem cellsVk : Tryz.prog.cellsOf 23 = 1 := by kernel_rfl
theorem cellsV64 : Tryz.prog.cellsOf 24 = 1 := by kernel_rfl
theorem cellsV8 : Tryz.prog.cellsOf 22 = 1 := by kernel_rfl
theorem cellsVi : Tryz.prog.cellsOf 28 = 2 := by kernel_rfl
theorem cellsVb : Tryz.prog.cellsOf 4 = 1 := by kernel_rfl
theorem cellsVn : Tryz.prog.cellsOf 26 = 1 := by kernel_rfl
theorem cellsV32 : Tryz.prog.cellsOf 70 = 1 := by kernel_rfl
theorem cellsVs : Tryz.prog.cellsOf 9 = 1 := by kernel_rfl
theorem cellsVks : Tryz.prog.cellsOf 29 = 1 := by kernel_rfl
theorem bytesVa : Tryz.prog.bytesOf 31 = 104 := by kernel_rfl
theorem bytesV32 : Tryz.prog.bytesOf 70 = 4 := by kernel_rfl
theorem vreachIs : reachBytes = 140737488351232 := rfl
theorem vweights_all {H : Type} {P : Program} {e : TypeId} {d : DataW H} {l : List (DataW H)} (h : d ∈ l) : ∀ n ∈ d.weights P e, n ∈ DataW.weightsAll P e l := by
  induction l with
  | nil => cases h
  | cons x l ih =>
    intro n hn
    rw [DataW.weightsAll]
    rcases List.mem_cons.1 h with rfl | h
    · exact List.mem_append_left _ hn
    · exact List.mem_append_right _ (ih h n hn)
set_option maxRecDepth 100000 in
theorem nat_read {H : Type} {enc : TypeId × Value → H} {W : World} {b0 : Nat} {held : Bool} {fuel : Nat} {c : Value} {y : DataW H × List MemPlace} (hw : ∀ n ∈ y.1.weights Tryz.prog 26, n ≤ reachBytes)
    (h : DataW.trod enc Tryz.prog W b0 (fun _ => true) held fuel 26 [c] = some y) : ∃ zs : List Int, Reads .u32 W c zs ∧ Nt.Ok zs ∧ zs.length ≤ 35184372088832 := by
  rcases open_slice Tryz.underlying26 h with ⟨hcs, _⟩ | ⟨x, l, cp, m, n2, D, Pl, hcs, _, hlc, hm, hmm, hx4, hcell⟩
  · simp at hcs
    subst hcs
    exact ⟨[], ⟨none, 0, rfl, Nat.le_refl _, by unfold maxLen; omega, fun h => absurd h (by simp)⟩, fun i => by simp [Nt.lb], by simp⟩
  · simp at hcs
    subst hcs
    have hmc : m = cp := by simpa using hmm
    rw [cellsV32] at hcell
    rw [hx4] at hw
    simp only [DataW.weights, Tryz.underlying26] at hw
    have hlen0 : l ≤ 35184372088832 := by
      have h1 := hw _ (List.mem_cons_self ..)
      rw [List.length_map, List.length_range, bytesV32, vreachIs] at h1
      omega
    have each : ∀ i, i < l → ∃ z : Int, W.cell? (x.add i) = some (.int .u32 z) ∧ 0 ≤ z ∧ z < 4294967296 := fun i hi => by
      obtain ⟨cs', e1, e2⟩ := hcell i (by omega)
      obtain ⟨z, hz, _, hwf⟩ := DataW.trod_int Tryz.underlying70 e2
      obtain ⟨_, _, hce⟩ := World.cells?_some e1
      have h0 := hce 0 (by omega)
      rw [hz] at h0
      simp [Lit.wf, IntKind.min, IntKind.max, IntKind.signed, IntKind.bits] at hwf
      refine ⟨z, ?_, by omega, by omega⟩
      rw [Nat.mul_one, show (x.add i).add 0 = x.add i by simp [Addr.add]] at h0
      exact h0
    obtain ⟨Q, hQ⟩ := choose_lt each
    have hlen2 : ((List.range l).map Q).length = l := by simp
    have hlb : ∀ i, i < l → Nt.lb ((List.range l).map Q) i = Q i := fun i hi => by simp [Nt.lb, hi]
    refine ⟨(List.range l).map Q, ⟨some x, cp, by rw [hlen2], by rw [hlen2]; exact hlc, hm, fun hp => ?_⟩, fun i => ?_, by rw [hlen2]; exact hlen0⟩
    · rw [hlen2] at hp
      have h0 := (hQ 0 hp).1
      obtain ⟨b, off, spot⟩ := x
      have hspot : spot = none := by simpa [Addr.add] using World.cell?_spot h0
      subst hspot
      refine ⟨b, off, rfl, by simpa [Addr.add] using vcell_lt h0, fun i hi => ?_⟩
      rw [hlen2] at hi
      rw [hlb i hi]
      have := (hQ i hi).1
      rw [Addr.add_lit] at this
      exact this
    · rcases Nat.lt_or_ge i l with g | g
      · rw [hlb i g]; exact (hQ i g).2
      · have : Nt.lb ((List.range l).map Q) i = 0 := by simp [Nt.lb, g]
        rw [this]; omega
set_option maxRecDepth 100000 in
theorem va_read {H : Type} {enc : TypeId × Value → H} {W : World} {b0 : Nat} {held : Bool} : ∀ (N : Nat) (d : DataW H), SizeOf.sizeOf d ≤ N → (∀ n ∈ d.weights Tryz.prog 31, n ≤ reachBytes) → ∀ (fuel : Nat) (cs : List Value) (p : List MemPlace),
    DataW.trod enc Tryz.prog W b0 (fun _ => true) held fuel 31 cs = some (d, p) → ∃ (x : Va) (vm vk : Value), cs = vaL x vm vk ∧ Reads .u32 W vm x.mag ∧ VaSl W vk x.kids ∧ VaW x := by
  intro N
  induction N with
  | zero =>
    intro d hd
    cases d <;> simp at hd
  | succ N ih =>
    intro d hd hwt fuel cs p hf
    obtain ⟨xs, n, _, hx, hl, hlen, hfs⟩ := DataW.trod_struct Tryz.underlying31 hf
    rw [cellsVa] at hl
    obtain ⟨c0, c1, c2, c3, c4, c5, c6, c7, rfl⟩ : ∃ c0 c1 c2 c3 c4 c5 c6 c7, cs = [c0, c1, c2, c3, c4, c5, c6, c7] := by
      match cs, hl with
      | [c0, c1, c2, c3, c4, c5, c6, c7], _ => exact ⟨c0, c1, c2, c3, c4, c5, c6, c7, rfl⟩
    match xs, hlen, hx, hfs with
    | [y0, y1, y2, y3, y4, y5, y6], _, hx, hfs =>
      have f0 := hfs 0 _ rfl
      have f1 := hfs 1 _ rfl
      have f2 := hfs 2 _ rfl
      have f3 := hfs 3 _ rfl
      have f4 := hfs 4 _ rfl
      have f5 := hfs 5 _ rfl
      have f6 := hfs 6 _ rfl
      have g0 : DataW.trod enc Tryz.prog W b0 (fun _ => true) held n 23 [c0] = some y0 := by simpa [cellsVk] using f0
      have g1 : DataW.trod enc Tryz.prog W b0 (fun _ => true) held n 24 [c1] = some y1 := by simpa [cellsV64] using f1
      have g2 : DataW.trod enc Tryz.prog W b0 (fun _ => true) held n 28 [c2, c3] = some y2 := by simpa [cellsVi] using f2
      have g3 : DataW.trod enc Tryz.prog W b0 (fun _ => true) held n 24 [c4] = some y3 := by simpa [cellsV64] using f3
      have g4 : DataW.trod enc Tryz.prog W b0 (fun _ => true) held n 22 [c5] = some y4 := by simpa [cellsV8] using f4
      have g5 : DataW.trod enc Tryz.prog W b0 (fun _ => true) held n 9 [c6] = some y5 := by simpa [cellsVs] using f5
      have g6 : DataW.trod enc Tryz.prog W b0 (fun _ => true) held n 29 [c7] = some y6 := by simpa [cellsVks] using f6
      clear f0 f1 f2 f3 f4 f5 f6 hfs
      obtain ⟨m0, hc0, _, wf0⟩ := DataW.trod_int Tryz.underlying23 g0
      obtain ⟨m1, hc1, _, wf1⟩ := DataW.trod_int Tryz.underlying24 g1
      obtain ⟨m4, hc4, _, wf4⟩ := DataW.trod_int Tryz.underlying24 g3
      obtain ⟨m5, hc5, _, wf5⟩ := DataW.trod_int Tryz.underlying22 g4
      obtain ⟨s6, hc6, hs6, hs7⟩ := DataW.trod_string Tryz.underlying9 g5
      obtain ⟨z0, z1, nz, hz, _, k0, k1⟩ := trod_struct2 Tryz.underlying28 g2
      have k0' : DataW.trod enc Tryz.prog W b0 (fun _ => true) held nz 4 [c2] = some z0 := by simpa [cellsVb] using k0
      have k1' : DataW.trod enc Tryz.prog W b0 (fun _ => true) held nz 26 [c3] = some z1 := by simpa [cellsVn] using k1
      obtain ⟨ng, hc2, _⟩ := DataW.trod_bool Tryz.underlying4 k0'
      simp at hc0 hc1 hc2 hc4 hc5 hc6
      subst hc0 hc1 hc2 hc4 hc5 hc6
      have hdd : d = .agg [y0.1, y1.1, y2.1, y3.1, y4.1, y5.1, y6.1] := (Prod.mk.inj hx).1
      have hy2 : y2.1 = .agg [z0.1, z1.1] := by rw [hz]
      have hy6 : SizeOf.sizeOf y6.1 < SizeOf.sizeOf d := by
        rw [hdd]; simp; omega
      have hw6 : ∀ n ∈ y6.1.weights Tryz.prog 29, n ≤ reachBytes := fun n hn => hwt n (by
        rw [hdd, DataW.weights, Tryz.underlying31]
        exact DataW.weights_mem_each (j := 6) rfl rfl n hn)
      have hw2 : ∀ n ∈ y2.1.weights Tryz.prog 28, n ≤ reachBytes := fun n hn => hwt n (by
        rw [hdd, DataW.weights, Tryz.underlying31]
        exact DataW.weights_mem_each (j := 2) rfl rfl n hn)
      have hwz : ∀ n ∈ z1.1.weights Tryz.prog 26, n ≤ reachBytes := fun n hn => hw2 n (by
        rw [hy2, DataW.weights, Tryz.underlying28]
        exact DataW.weights_mem_each (j := 1) rfl rfl n hn)
      have hw5 : ∀ n ∈ y5.1.weights Tryz.prog 9, n ≤ reachBytes := fun n hn => hwt n (by
        rw [hdd, DataW.weights, Tryz.underlying31]
        exact DataW.weights_mem_each (j := 5) rfl rfl n hn)
      obtain ⟨zs, hzr, hzo, hzl⟩ := nat_read hwz k1'
      obtain ⟨es, e1, e2, e3⟩ := txt_of s6
      have hsl : es.length ≤ 140737488355328 := by
        have hq := hw5 s6.data.toList.length (by rw [hs6]; simp [DataW.weights])
        rw [vreachIs] at hq
        have : s6.size = s6.data.toList.length := by rw [Array.length_toList]; rfl
        omega
      simp [Lit.wf, IntKind.min, IntKind.max, IntKind.signed, IntKind.bits] at wf0 wf1 wf4 wf5
      suffices hs : ∃ ks, VaSl W c7 ks by
        obtain ⟨ks, hs⟩ := hs
        exact ⟨.mk m0 m1 ng zs m4 m5 es ks, c3, c7, by unfold vaL; simp only [Va.kind, Va.n, Va.neg, Va.bits, Va.ext, Va.text]; rw [← e3], hzr, hs, ⟨by simp only [Va.kind]; omega, by simp only [Va.kind]; omega, by simp only [Va.n]; omega, by simp only [Va.n]; omega, by simp only [Va.bits]; omega, by simp only [Va.bits]; omega, by simp only [Va.ext]; omega, by simp only [Va.ext]; omega, e1, hsl, hzo, hzl⟩⟩
      rcases open_slice Tryz.underlying29 g6 with ⟨hcs, _⟩ | ⟨x, l, c, m, n2, D, Pl, hcs, _, hlc, hm, hmm, hx4, hcell⟩
      · simp at hcs
        subst hcs
        exact ⟨[], VaSl.nil W⟩
      · simp at hcs
        subst hcs
        have hmc : m = c := by simpa using hmm
        rw [cellsVa] at hcell
        rw [hx4] at hw6
        simp only [DataW.weights, Tryz.underlying29] at hw6
        have hlen0 : l ≤ 2199023255552 := by
          have h1 := hw6 _ (List.mem_cons_self ..)
          rw [List.length_map, List.length_range, bytesVa, vreachIs] at h1
          omega
        have each : ∀ i, i < l → ∃ q : Va × Value × Value, (∀ j, j < 8 → W.cell? ((x.add (i * 8)).add j) = (vaL q.1 q.2.1 q.2.2)[j]?) ∧ Reads .u32 W q.2.1 q.1.mag ∧ VaSl W q.2.2 q.1.kids ∧ VaW q.1 := fun i hi => by
          obtain ⟨cs', e1, e2⟩ := hcell i (by omega)
          have hsd : SizeOf.sizeOf (D i) < SizeOf.sizeOf y6.1 := by
            rw [hx4]
            have hm : D i ∈ (List.range l).map D := List.mem_map.2 ⟨i, List.mem_range.2 hi, rfl⟩
            have := List.sizeOf_lt_of_mem hm
            simp only [DataW.slice.sizeOf_spec]
            omega
          obtain ⟨y, vm, vk, rfl, hv1, hv2, hv3⟩ := ih (D i) (by omega) (fun n hn => hw6 n (List.mem_cons_of_mem _ (List.mem_append_left _ (vweights_all (List.mem_map.2 ⟨i, List.mem_range.2 hi, rfl⟩) n hn)))) n2 cs' (Pl i) e2
          obtain ⟨_, _, hce⟩ := World.cells?_some e1
          exact ⟨(y, vm, vk), fun j hj => hce j hj, hv1, hv2, hv3⟩
        obtain ⟨Q, hQ⟩ := choose_lt each
        have hlen2 : ((List.range l).map fun i => (Q i).1).length = l := by simp
        refine ⟨(List.range l).map fun i => (Q i).1, ?_⟩
        have key := VaSl.mk (w := W) (some x) c ((List.range l).map fun i => (Q i).1) (fun i => (Q i).2.1) (fun i => (Q i).2.2) (by rw [hlen2]; exact hlc) hm (by rw [hlen2]; exact hlen0) (fun h => by cases h) (fun hp => by
          rw [hlen2] at hp
          have h0 := (hQ 0 hp).1 0 (by omega)
          obtain ⟨b, off, spot⟩ := x
          have hspot : spot = none := by simpa [Addr.add] using World.cell?_spot h0
          subst hspot
          refine ⟨b, off, rfl, by simpa [Addr.add] using vcell_lt h0, fun i hi => ?_⟩
          rw [hlen2] at hi
          have hq := (hQ i hi).1
          simp only [List.getElem_map, List.getElem_range]
          refine ⟨?_, ?_, ?_, ?_, ?_, ?_, ?_, ?_⟩
          · have := hq 0 (by omega); rw [Addr.add_lit, Addr.add_lit] at this; exact this
          · have := hq 1 (by omega); rw [Addr.add_lit, Addr.add_lit] at this; exact this
          · have := hq 2 (by omega); rw [Addr.add_lit, Addr.add_lit] at this; exact this
          · have := hq 3 (by omega); rw [Addr.add_lit, Addr.add_lit] at this; exact this
          · have := hq 4 (by omega); rw [Addr.add_lit, Addr.add_lit] at this; exact this
          · have := hq 5 (by omega); rw [Addr.add_lit, Addr.add_lit] at this; exact this
          · have := hq 6 (by omega); rw [Addr.add_lit, Addr.add_lit] at this; exact this
          · have := hq 7 (by omega); rw [Addr.add_lit, Addr.add_lit] at this; exact this) (fun i hi => by
          rw [hlen2] at hi
          simp only [List.getElem_map, List.getElem_range]
          exact ⟨(hQ i hi).2.1, (hQ i hi).2.2.2⟩) (fun i hi => by
          rw [hlen2] at hi
          simp only [List.getElem_map, List.getElem_range]
          exact (hQ i hi).2.2.1)
        rw [hlen2] at key
        exact key
end Go.Proofs.YticmlelalbaalaaGreatDoor
namespace Go.Proofs.YticmlelalbaalaaGreatDoor
open Go.RowKit
set_option linter.unusedVariables false
theorem sg3_lt {x y : Int} (h : x < y) : sg3 x y = -1 := by unfold sg3; rw [if_pos h]
theorem sg3_eq (x : Int) : sg3 x x = 0 := sg3_zero.2 rfl
theorem sg3_gt {x y : Int} (h : y < x) : sg3 x y = 1 := by unfold sg3; rw [if_neg (by omega), if_pos h]
set_option maxHeartbeats 1000000 in
theorem vcompare_kind (x y : Int) (w : World) :
    Calls Tryz.prog 50 #[.int .i8 x, .int .i8 y] w fun e w' => e = .returned (.int .i64 (sg3 x y)) ∧ w' = w := by
  have hx : (x != x) = false := by simp
  have hy : (y != y) = false := by simp
  rcases Int.lt_trichotomy x y with h | h | h
  · rw [sg3_lt h]
    go_enter Tryz.func50, Tryz.ntmps50
    go_wp2
    go_ret
    exact ⟨rfl, rfl⟩
  · subst h
    rw [sg3_eq]
    go_enter Tryz.func50, Tryz.ntmps50
    go_wp2
    go_ret
    exact ⟨rfl, rfl⟩
  · rw [sg3_gt h]
    have h' : ¬ x < y := by omega
    go_enter Tryz.func50, Tryz.ntmps50
    go_wp2
    go_ret
    exact ⟨rfl, rfl⟩
set_option maxHeartbeats 1000000 in
theorem vcompare_u64 (x y : Int) (w : World) :
    Calls Tryz.prog 51 #[.int .u64 x, .int .u64 y] w fun e w' => e = .returned (.int .i64 (sg3 x y)) ∧ w' = w := by
  have hx : (x != x) = false := by simp
  have hy : (y != y) = false := by simp
  rcases Int.lt_trichotomy x y with h | h | h
  · rw [sg3_lt h]
    go_enter Tryz.func51, Tryz.ntmps51
    go_wp2
    go_ret
    exact ⟨rfl, rfl⟩
  · subst h
    rw [sg3_eq]
    go_enter Tryz.func51, Tryz.ntmps51
    go_wp2
    go_ret
    exact ⟨rfl, rfl⟩
  · rw [sg3_gt h]
    have h' : ¬ x < y := by omega
    go_enter Tryz.func51, Tryz.ntmps51
    go_wp2
    go_ret
    exact ⟨rfl, rfl⟩
set_option maxHeartbeats 1000000 in
theorem vcompare_i8 (x y : Int) (w : World) :
    Calls Tryz.prog 52 #[.int .i8 x, .int .i8 y] w fun e w' => e = .returned (.int .i64 (sg3 x y)) ∧ w' = w := by
  have hx : (x != x) = false := by simp
  have hy : (y != y) = false := by simp
  rcases Int.lt_trichotomy x y with h | h | h
  · rw [sg3_lt h]
    go_enter Tryz.func52, Tryz.ntmps52
    go_wp2
    go_ret
    exact ⟨rfl, rfl⟩
  · subst h
    rw [sg3_eq]
    go_enter Tryz.func52, Tryz.ntmps52
    go_wp2
    go_ret
    exact ⟨rfl, rfl⟩
  · rw [sg3_gt h]
    have h' : ¬ x < y := by omega
    go_enter Tryz.func52, Tryz.ntmps52
    go_wp2
    go_ret
    exact ⟨rfl, rfl⟩
theorem vstr_list (xs : List Int) : (strOfNums xs).toList = xs.map fun n => UInt8.ofNat n.toNat := by rw [ByteArray.toList_eq]; rfl
theorem vless {xs ys : List Int} (hx : Byt xs) (hy : Byt ys) : Op.bytesLess (xs.map fun n => UInt8.ofNat n.toNat) (ys.map fun n => UInt8.ofNat n.toNat) = decide (tcmp xs ys = -1) := by
  induction xs generalizing ys with
  | nil => cases ys <;> simp [Op.bytesLess, tcmp]
  | cons a x ih =>
    cases ys with
    | nil => simp [Op.bytesLess, tcmp]
    | cons b y =>
      have ha := hx a List.mem_cons_self
      have hb := hy b List.mem_cons_self
      have i := ih (fun z hz => hx z (List.mem_cons_of_mem _ hz)) (ys := y) (fun z hz => hy z (List.mem_cons_of_mem _ hz))
      have h1 : (UInt8.ofNat a.toNat < UInt8.ofNat b.toNat) ↔ a < b := by
        rw [UInt8.lt_iff_toNat_lt, UInt8.toNat_ofNat', UInt8.toNat_ofNat']; omega
      have h2 : (UInt8.ofNat a.toNat = UInt8.ofNat b.toNat) ↔ a = b := by
        constructor
        · intro h
          have h := congrArg UInt8.toNat h
          rw [UInt8.toNat_ofNat', UInt8.toNat_ofNat'] at h
          omega
        · intro h; rw [h]
      simp only [List.map_cons, Op.bytesLess, i]
      rcases Int.lt_trichotomy a b with h | h | h
      · have e : tcmp (a :: x) (b :: y) = -1 := by rw [tcmp, sg3_lt h]; rfl
        rw [decide_eq_true e]
        simp [h1.2 h]
      · subst h
        have e : tcmp (a :: x) (a :: y) = tcmp x y := by rw [tcmp, sg3_eq]; rfl
        rw [decide_eq_decide.2 (show tcmp (a :: x) (a :: y) = -1 ↔ tcmp x y = -1 by rw [e])]
        have n : ¬ UInt8.ofNat a.toNat < UInt8.ofNat a.toNat := fun e => by have := h1.1 e; omega
        rw [decide_eq_false n, Bool.false_or, beq_self_eq_true, Bool.true_and]
      · have e : tcmp (a :: x) (b :: y) = 1 := by rw [tcmp, sg3_gt h]; rfl
        have n1 : ¬ UInt8.ofNat a.toNat < UInt8.ofNat b.toNat := fun e => by have := h1.1 e; omega
        have n2 : ¬ UInt8.ofNat a.toNat = UInt8.ofNat b.toNat := fun e => by have := h2.1 e; omega
        rw [decide_eq_false (p := tcmp (a :: x) (b :: y) = -1) (by rw [e]; decide)]
        simp [n1, n2]
theorem veq {xs ys : List Int} (hx : Byt xs) (hy : Byt ys) : ((strOfNums xs).toList == (strOfNums ys).toList) = decide (tcmp xs ys = 0) := by
  by_cases h : xs = ys
  · subst h; simp [tcmp_zero]
  · rw [decide_eq_false (fun e => h (tcmp_zero.1 e))]
    refine beq_eq_false_iff_ne.2 (fun e => h ?_)
    rw [vstr_list, vstr_list] at e
    clear h
    induction xs generalizing ys with
    | nil => cases ys with
      | nil => rfl
      | cons b y => simp at e
    | cons a x ih =>
      cases ys with
      | nil => simp at e
      | cons b y =>
        simp only [List.map_cons, List.cons.injEq] at e
        have ha := hx a List.mem_cons_self
        have hb := hy b List.mem_cons_self
        have e1 : a = b := by
          have h := congrArg UInt8.toNat e.1
          rw [UInt8.toNat_ofNat', UInt8.toNat_ofNat'] at h
          omega
        rw [e1, ih (fun z hz => hx z (List.mem_cons_of_mem _ hz)) (fun z hz => hy z (List.mem_cons_of_mem _ hz)) e.2]
set_option maxHeartbeats 4000000 in
theorem vcompare_str {w : World} {xs ys : List Int} (hx : Byt xs) (hy : Byt ys) : Calls Tryz.prog 55 #[.string (strOfNums xs), .string (strOfNums ys)] w fun e w' => e = .returned (.int .i64 (tcmp xs ys)) ∧ w' = w := by
  have h1 := vless hx hy
  rw [← vstr_list, ← vstr_list] at h1
  have h2 := veq hx hy
  have hg : binOp .gtr 9 (.string (strOfNums xs)) (.string (strOfNums ys)) = pure (.bool !(Op.bytesLess (strOfNums xs).toList (strOfNums ys).toList || (strOfNums xs).toList == (strOfNums ys).toList)) := by simp [binOp, Op.stringOp]
  rw [h1, h2] at hg
  have hr := tcmp_r xs ys
  unfold R3 at hr
  obtain ⟨c, hc⟩ : ∃ c, tcmp xs ys = c := ⟨_, rfl⟩
  rw [hc] at hr h1 h2 hg ⊢
  obtain ⟨s, hs⟩ : ∃ s, strOfNums xs = s := ⟨_, rfl⟩
  obtain ⟨t, ht⟩ : ∃ t, strOfNums ys = t := ⟨_, rfl⟩
  rw [hs, ht] at h1 h2 hg ⊢
  have n1 : (s.toList != s.toList) = false := by simp
  have n2 : (t.toList != t.toList) = false := by simp
  clear hs ht hc hx hy
  rcases (by omega : c = -1 ∨ c = 0 ∨ c = 1) with rfl | rfl | rfl
  all_goals simp only [decide_true, decide_false, Int.reduceNeg, Int.reduceEq, Bool.or_false, Bool.or_true, Bool.not_true, Bool.not_false] at h1 h2 hg
  all_goals
    go_enter Tryz.func55, Tryz.ntmps55
    go_wp2
    go_ret
    exact ⟨rfl, rfl⟩
set_option maxHeartbeats 4000000 in
theorem vor_three {w : World} {a b c : Int} {b0 : Nat} (h0 : w.cell? ⟨b0, 0, none⟩ = some (.int .i64 a)) (h1 : w.cell? ⟨b0, 1, none⟩ = some (.int .i64 b)) (h2 : w.cell? ⟨b0, 2, none⟩ = some (.int .i64 c)) :
    Calls Tryz.prog 49 #[.slice (some ⟨b0, 0, none⟩) 3 3] w fun e w' => e = .returned (.int .i64 (lx a (lx b c))) ∧ w' = w := by
  go_enter Tryz.func49, Tryz.ntmps49
  go_wp2
  go_loopw [8] (fun i wr => ∃ j : Nat, i = .int .i64 j ∧ j ≤ 3 ∧ (0 < j → a = 0) ∧ (1 < j → b = 0) ∧ (2 < j → c = 0) ∧ wr = w) (fun i _ => 3 - (intOf i).toNat)
  case atStart => exact ⟨0, rfl, by omega, by omega, by omega, by omega, rfl⟩
  case round =>
    obtain ⟨j, rfl, hj, ja, jb, jc, rfl⟩ := hrel
    have wj : IntKind.i64.wrap ((j : Int) + 1) = (j : Int) + 1 := by rw [IntKind.wrap_i64]; omega
    rcases (by omega : j = 0 ∨ j = 1 ∨ j = 2 ∨ j = 3) with rfl | rfl | rfl | rfl
    · by_cases z : a = 0
      · subst z
        go_wp2
        go_roundw
        case rel => exact ⟨1, by simp⟩
        case measure => simp [intOf]
      · have ez : (a != 0) = true := by simp [z]
        have e : lx a (lx b c) = a := by unfold lx; rw [if_neg z]
        have HE := hide e
        clear ja jb jc e
        go_wp2
        go_ret
        exact ⟨by rw [HE.out]; rfl, rfl⟩
    · obtain rfl := ja (by omega)
      by_cases z : b = 0
      · subst z
        go_wp2
        go_roundw
        case rel => exact ⟨2, by simp⟩
        case measure => simp [intOf]
      · have ez : (b != 0) = true := by simp [z]
        have e : lx 0 (lx b c) = b := by unfold lx; rw [if_pos rfl, if_neg z]
        have HE := hide e
        clear ja jb jc e
        go_wp2
        go_ret
        exact ⟨by rw [HE.out]; rfl, rfl⟩
    · obtain rfl := ja (by omega)
      obtain rfl := jb (by omega)
      by_cases z : c = 0
      · subst z
        go_wp2
        go_roundw
        case rel => exact ⟨3, by simp⟩
        case measure => simp [intOf]
      · have ez : (c != 0) = true := by simp [z]
        have e : lx 0 (lx 0 c) = c := by unfold lx; rw [if_pos rfl, if_pos rfl]
        have HE := hide e
        clear ja jb jc e
        go_wp2
        go_ret
        exact ⟨by rw [HE.out]; rfl, rfl⟩
    · obtain rfl := ja (by omega)
      obtain rfl := jb (by omega)
      obtain rfl := jc (by omega)
      clear ja jb jc
      go_wp2
      go_ret
      exact ⟨rfl, rfl⟩
end Go.Proofs.YticmlelalbaalaaGreatDoor
