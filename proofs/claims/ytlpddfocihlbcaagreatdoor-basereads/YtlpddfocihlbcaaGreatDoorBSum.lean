/- base.Sum32 -/
import Derived.Test.YtlpddfocihlbcaaGreatDoorBRead
import Derived.Deep.MidRow
namespace Go.Proofs.YtlpddfocihlbcaaGreatDoor
open Go.RowKit
set_option linter.unusedVariables false

def bSum (es : List Int) : List Int := if es.length = 32 then es else List.replicate 32 0
theorem bSum_len (es : List Int) : (bSum es).length = 32 := by
  unfold bSum
  split
  · assumption
  · simp
set_option maxRecDepth 100000 in
/-- an array's value goes into a variable -/
theorem wpList_store_r {P : Program} {w : World} {ops : Array Oper} {rest : List Oper} {o : Oper} {a : Act} {Q : Exit → Act → World → Prop} (hgd : o.guard = none) (ty : TypeId) (x y : Operand) (ho : o.op = .store ty x y)
    (g : Nat) (old zs : List Int) (hx : a.eval x = .pointer (some ⟨g, 0, none⟩)) (hy : a.eval y = .agg (zs.map (Value.int .u8)).toArray) (t : TypeId) (hR : Row .u8 t w g old) (hlen : old.length = zs.length) (hi : (P.info? ty).map (·.size) = some zs.length)
    (B : Nat) (w0 : World) (hb : Below B w0 w) (hBg : B ≤ g) (h : ∀ w', Row .u8 t w' g zs → Below B w0 w' → wpList P ops Q rest (a.put o.dst undef) w') : wpList P ops Q (o :: rest) a w := by
  refine wpList_plain hgd fun K hK => wp_store_row ty x y ho g _ hx hy t _ hR (by simpa using hi) (by simpa using hlen) (Array.all_eq_true_iff_forall_mem.2 (fun v hv => by
    have : v ∈ zs.map (Value.int .u8) := by simpa using hv
    obtain ⟨n, _, rfl⟩ := List.mem_map.1 this
    rfl)) (hK _ _ (h _ ?_ (hb.trans ⟨rfl, rfl, rfl, by simp [World.setRow], fun k hk => setRow_other w g k _ (by omega)⟩)))
  exact setRow_heap w g _ _ t _ hR
theorem range_of {w : World} {b off : Nat} {es : List Int} (hc : ∀ i, i < es.length → w.cell? ⟨b, off + i, none⟩ = some (.int .u8 (Nt.lb es i))) : w.rangeAt b off (es.map (Value.int .u8)) := by
  intro j v hv
  rw [List.getElem?_map] at hv
  cases hq : es[j]? with
  | none => rw [hq] at hv; simp at hv
  | some x =>
    rw [hq] at hv
    simp only [Option.map_some, Option.some.injEq] at hv
    have hj := (List.getElem?_eq_some_iff.1 hq).1
    rw [hc j hj, ← hv, ulb_get hj, (List.getElem?_eq_some_iff.1 hq).2]
set_option maxRecDepth 100000 in
theorem arr_at (b off cap : Nat) (W : World) : (Instr.arrayAt 56 (.slice (some ⟨b, off, none⟩) 32 cap)).run Tryz.prog W = .ok (.pointer (some ⟨b, off, none⟩)) W := by
  simp [Instr.arrayAt, run_underlying Tryz.underlying56]
theorem Tryz.info32 : (Tryz.prog.info? 56).map (·.size) = some 32 := by kernel_rfl
set_option maxRecDepth 100000 in
theorem b32_post {g : Nat} {W : World} {act : Act} {zs : List Int} {ok : Bool} {R : Ending → World → Prop} (hR : Row .u8 56 W g zs) (hz : zs.length = 32) (hd : act.defers = [])
    (h2 : act.tmps.getD 2 undef = .pointer (some ⟨g, 0, none⟩)) (h3 : act.tmps.getD 3 undef = .bool ok) (h : R (.returned (.tuple #[.agg (zs.map (Value.int .u8)).toArray, .bool ok])) W) : bodyPost Tryz.prog Tryz.f60 R .ret act W := by
  refine bodyPost_ret ?_ hd h
  rw [results_cell_tmp rfl, h2, h3]
  show Result.andThen ((loadVar 56 ⟨g, 0, none⟩).run Tryz.prog W) _ = _
  rw [run_loadVar_row W g 56 56 _ (0, 0) _ hR Tryz.underlying56 rfl (by rw [Tryz.info32]; simp [hz])]
  rfl

set_option maxRecDepth 100000 in
set_option maxHeartbeats 8000000 in
theorem sum_any {w : World} {v : Value} {es : List Int} (hr : Reads .u8 w v es) :
    Calls Tryz.prog 60 #[v] w fun e w' => e = .returned (.tuple #[.agg ((bSum es).map (Value.int .u8)).toArray, .bool (decide (es.length = 32))]) ∧ Below w.heap.size w w' := by
  obtain ⟨ao, cap, rfl, hxl, hxm, hxc⟩ := hr
  unfold maxLen at hxm
  by_cases h : es.length = 32
  · obtain ⟨b, off, rfl, hb, hc⟩ := hxc (by omega)
    have HE := hide (show bSum es = es by unfold bSum; rw [if_pos h])
    rw [decide_eq_true h]
    have HC := hide (range_of (w := w.alloc (.cells ((List.replicate 32 (0 : Int)).map (Value.int .u8)).toArray 56)) (fun i hi => ((al_b w _).cell (p := ⟨b, off + i, none⟩) hb).trans (hc i hi)))
    have HH := hide h
    rw [h] at hxl ⊢
    clear h hc hxc
    have har := arr_at b off cap
    go_enter Tryz.func60, Tryz.ntmps60
    go_wp2_with (first
      | (refine wpList_load_mid rfl 56 _ rfl b off rfl (es.map (Value.int .u8)) _ HC.out Tryz.underlying56 rfl (by rw [Tryz.info32, List.length_map, HH.out]) ?_)
      | (refine wpList_store_r rfl 56 _ _ rfl w.heap.size (List.replicate 32 0) es rfl rfl 56 (heap_alloc_new w _) (by rw [HH.out]; rfl) (by rw [Tryz.info32, HH.out]) w.heap.size w (al_b _ _) (Nat.le_refl _) ?_; intro w2 hR hB))
    rw [HE.out]
    exact b32_post hR HH.out rfl rfl rfl ⟨rfl, hB⟩
  · have q1 : ((es.length : Int) != 32) = true := by simp; omega
    have HE := hide (show bSum es = List.replicate 32 0 by unfold bSum; rw [if_neg h])
    rw [decide_eq_false h]
    clear h hxc
    go_enter Tryz.func60, Tryz.ntmps60
    go_wp2_with (refine wpList_store_r rfl 56 _ _ rfl w.heap.size (List.replicate 32 0) (List.replicate 32 0) rfl rfl 56 (heap_alloc_new w _) rfl (by rw [Tryz.info32]; rfl) w.heap.size w (al_b _ _) (Nat.le_refl _) ?_; intro w2 hR hB)
    rw [HE.out]
    exact b32_post hR rfl rfl rfl rfl ⟨rfl, hB⟩

end Go.Proofs.YtlpddfocihlbcaaGreatDoor
