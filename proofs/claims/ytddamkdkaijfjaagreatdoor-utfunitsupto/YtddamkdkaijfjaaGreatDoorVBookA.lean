/- append to a list in memory of its own -/
import Derived.Test.YtddamkdkaijfjaaGreatDoorVBookF
namespace Go.Proofs.YtddamkdkaijfjaaGreatDoor
open Go.RowKit

theorem Lies.any {w w' : World} {v : Value} {xs : List Int} {c : Nat} (h : Lies w v xs c) (hg : ∀ k, k < w.heap.size → w'.heap[k]? = w.heap[k]?) : Lies w' v xs c :=
  h.keep fun k hk => hg k (h.lt hk)

theorem row_set_mid {w : World} {g : Nat} {xs : List Int} {rest : List Value} {y : Int} (h : RowV w g (xs.map (Value.int .u16) ++ rest)) (hr : 0 < rest.length) :
    RowV (w.setRow g (((xs.map (Value.int .u16) ++ rest).toArray).toList.take xs.length ++ [Value.int .u16 y] ++ ((xs.map (Value.int .u16) ++ rest).toArray).toList.drop (xs.length + 1)).toArray) g (xs.map (Value.int .u16) ++ Value.int .u16 y :: rest.tail) := by
  unfold RowV at h ⊢
  rw [setRow_heap w g _ _ _ _ h]
  congr 2
  apply congrArg List.toArray
  cases rest with
  | nil => simp at hr
  | cons r rest =>
    simp only [List.tail_cons]
    have e2 : List.map (Value.int .u16) xs ++ r :: rest = (List.map (Value.int .u16) xs ++ [r]) ++ rest := by simp
    rw [List.take_left' (by simp), e2, List.drop_left' (by simp)]
    simp

section
variable {P : Program} (w : World)
theorem run_append_lie (t ty : TypeId) (i : TypeInfo) (ht : P.underlying t = some (.slice 52)) (hi : P.info? 52 = some i) (hz : i.zero = some (.int .u16 0)) (hsize : i.size = 1) (hby : i.bytes = 2)
    (v : Value) (xs : List Int) (c : Nat) (h : Lies w v xs c) (ad : Addr) (cx : Nat) (y : Int) (hc : Cells .u16 w (some ad) [y]) (h63 : xs.length + 1 ≤ 17592186044416) :
    ∃ ao' c' w', (Builtin.append_ #[t, t] ty #[v, .slice (some ad) 1 cx]).run P w = .ok (.slice ao' (xs.length + 1) c') w' ∧ Lies w' (.slice ao' (xs.length + 1) c') (xs ++ [y]) c' ∧ w.grownBy w' (blk v) ∧
      (blk (.slice ao' (xs.length + 1) c') = blk v ∨ blk (.slice ao' (xs.length + 1) c') = some w.heap.size) ∧ (∀ u zs d, Lies w u zs d → zs.length ≤ xs.length → Lies w' u zs d) := by
  have hm63 : xs.length + 1 ≤ maxLen := by unfold maxLen; omega
  have hnews : ∀ j u, [Value.int .u16 y][j]? = some u → w.cell? (ad.add j) = some u := by
    intro j u hu
    have hj : j < 1 := by have := (List.getElem?_eq_some_iff.1 hu).1; simpa using this
    have hj0 : j = 0 := by omega
    subst hj0
    obtain ⟨b, off, he, _, hcell⟩ := hc (by simp)
    cases he
    rw [Addr.add_lit, hcell 0 (by simp)]
    simp at hu
    rw [← hu]; simp [Nt.lb]
  have hl1 : [Value.int .u16 y].length = 1 * i.size := by rw [hsize]; rfl
  -- where it grows
  have grow : ∀ (old : Nat) (row : Option Nat), 
      Lies (w.drew.alloc (.cells ((xs.map (Value.int .u16)).toArray ++ [Value.int .u16 y].toArray ++ Builtin.zeroCells (Value.int .u16 0).cells (grownCap w (xs.length + 1) old 52 - (xs.length + 1))) 52)) (.slice (some ⟨w.heap.size, 0, none⟩) (xs.length + 1) (grownCap w (xs.length + 1) old 52)) (xs ++ [y]) (grownCap w (xs.length + 1) old 52) ∧
      w.grownBy (w.drew.alloc (.cells ((xs.map (Value.int .u16)).toArray ++ [Value.int .u16 y].toArray ++ Builtin.zeroCells (Value.int .u16 0).cells (grownCap w (xs.length + 1) old 52 - (xs.length + 1))) 52)) row ∧
      blk (.slice (some ⟨w.heap.size, 0, none⟩) (xs.length + 1) (grownCap w (xs.length + 1) old 52)) = some w.heap.size ∧
      (∀ u zs d, Lies w u zs d → Lies (w.drew.alloc (.cells ((xs.map (Value.int .u16)).toArray ++ [Value.int .u16 y].toArray ++ Builtin.zeroCells (Value.int .u16 0).cells (grownCap w (xs.length + 1) old 52 - (xs.length + 1))) 52)) u zs d) := by
    intro old row
    have hge := grownCap_ge w (xs.length + 1) old 52
    have hcm : grownCap w (xs.length + 1) old 52 ≤ maxLen := grownCap_le_maxLen w (xs.length + 1) old 52 hm63
    refine ⟨⟨_, by simp, by simpa using hge, hcm, fun _ => ⟨w.heap.size, List.replicate (grownCap w (xs.length + 1) old 52 - (xs.length + 1)) (.int .u16 0), rfl, ?_, ?_⟩⟩, ⟨rfl, rfl, rfl, by simp, fun k hk _ => Below.heap_alloc w.drew _ k hk⟩, ?_, fun u zs d hu => hu.any (fun k hk => Below.heap_alloc w.drew _ k hk)⟩
    · unfold RowV
      have e := heap_alloc_new w.drew (.cells ((xs.map (Value.int .u16)).toArray ++ [Value.int .u16 y].toArray ++ Builtin.zeroCells (Value.int .u16 0).cells (grownCap w (xs.length + 1) old 52 - (xs.length + 1))) 52)
      refine Eq.trans e ?_
      congr 2
      apply Array.ext'
      simp only [Array.toList_append]
      rw [show (Value.int .u16 0).cells = #[Value.int .u16 0] from rfl, zeroCells_one]
      simp
    · simp; omega
    · cases hq : grownCap w (xs.length + 1) old 52 with
      | zero => omega
      | succ q => rfl
  obtain ⟨ao, rfl, h1, h2, h3⟩ := h
  by_cases hroom : xs.length + 1 ≤ c
  · obtain ⟨g, rest, rfl, h4, h5⟩ := h3 (by omega)
    have hrl : 0 < rest.length := by omega
    have hr := run_append_room (P := P) w t ty 52 i ht hi g xs.length c _ h4 ad 1 cx [Value.int .u16 y] hl1 hnews (by intro u hu; simp at hu; subst hu; rfl) hroom (by rw [hsize]; simp; omega)
    simp only [hsize, Nat.mul_one, List.length_singleton] at hr
    have hrow := row_set_mid (y := y) h4 hrl
    refine ⟨_, _, _, hr, ⟨_, by simp, by simpa using hroom, h2, fun _ => ⟨g, rest.tail, rfl, by simpa using hrow, ?_⟩⟩, ⟨rfl, rfl, rfl, by simp, fun k _ hk => setRow_other w g k _ (fun e => hk ?_)⟩, .inl ?_, ?_⟩
    · simp; omega
    · subst e; cases c with | zero => omega | succ c => rfl
    · cases c with | zero => omega | succ c => rfl
    · intro u zs d hu hzl
      by_cases hub : blk u = some g
      · obtain ⟨rfl, r2, hr2, hd⟩ := hu.own hub
        obtain ⟨ao2, e2, k1, k2, _⟩ := hu
        cases d with
        | zero => cases hub
        | succ d =>
          have he : zs.map (Value.int .u16) ++ r2 = xs.map (Value.int .u16) ++ rest := by
            unfold RowV at hr2 h4
            rw [hr2] at h4
            simp only [Option.some.injEq, Obj.cells.injEq, and_true] at h4
            have h4 := congrArg Array.toList h4
            simp only at h4
            exact h4
          refine ⟨_, rfl, k1, k2, fun _ => ⟨g, (xs.map (Value.int .u16) ++ Value.int .u16 y :: rest.tail).drop zs.length, rfl, ?_, ?_⟩⟩
          · have ez : zs.map (Value.int .u16) ++ (xs.map (Value.int .u16) ++ Value.int .u16 y :: rest.tail).drop zs.length = xs.map (Value.int .u16) ++ Value.int .u16 y :: rest.tail := by
              have e1 : (xs.map (Value.int .u16) ++ Value.int .u16 y :: rest.tail).take zs.length = zs.map (Value.int .u16) := by
                have e3 : (zs.map (Value.int .u16) ++ r2).take zs.length = zs.map (Value.int .u16) := List.take_left' (by simp)
                rw [he, List.take_append_of_le_length (by simpa using hzl)] at e3
                rw [List.take_append_of_le_length (by simpa using hzl)]
                exact e3
              conv => rhs; rw [← List.take_append_drop zs.length (xs.map (Value.int .u16) ++ Value.int .u16 y :: rest.tail), e1]
            rw [ez]; exact hrow
          · have hl := congrArg List.length he
            simp at hl hd ⊢
            omega
      · exact hu.keep fun k hk => setRow_other w g k _ (fun e => hub (by rw [← e]; exact hk))
  · have hcx : c = xs.length := by omega
    cases ao with
    | none =>
      have hx0 : c = 0 := by
        rcases Nat.eq_zero_or_pos c with h | h
        · exact h
        · obtain ⟨g, rest, e, _⟩ := h3 h; cases e
      have hxe : xs = [] := List.eq_nil_of_length_eq_zero (by omega)
      subst hxe
      subst hx0
      obtain ⟨g1, g2, g3, g4⟩ := grow 0 (blk (.slice none 0 0))
      have hr := run_append_nil (P := P) w t ty 52 i (.int .u16 0) ht hi hz ad 1 cx [Value.int .u16 y] hl1 hnews (by omega) (by omega) (by rw [hby]; omega)
      exact ⟨_, _, _, by simpa using hr, by simpa using g1, by simpa using g2, .inr (by simpa using g3), fun u zs d hu _ => by simpa using g4 u zs d hu⟩
    | some b =>
      obtain ⟨g1, g2, g3, g4⟩ := grow c (blk (.slice (some b) xs.length c))
      have hr := run_append_grow (P := P) w t ty 52 i (.int .u16 0) ht hi hz b xs.length c (xs.map (Value.int .u16)) (by rw [hsize]; simp) (by
        intro j u hu
        have hj : j < xs.length := by have := (List.getElem?_eq_some_iff.1 hu).1; simpa using this
        obtain ⟨g, rest, e, h4, _⟩ := h3 (by omega)
        cases e
        rw [Addr.add_lit, Nat.zero_add, h4.cellI hj]
        simp [hj] at hu
        rw [← hu]; simp [Nt.lb, hj]) ad 1 cx [Value.int .u16 y] hl1 hnews (by omega) (by omega) (growslice_fits (by omega) (by rw [hby]; omega))
      exact ⟨_, _, _, hr, g1, g2, .inr g3, fun u zs d hu _ => g4 u zs d hu⟩

theorem wpList_append_lie {ops : Array Oper} {rest : List Oper} {o : Oper} {a : Act} {Q : Exit → Act → World → Prop} (hgd : o.guard = none) (s x : Operand) (t : TypeId)
    (ho : o.op = .call { callee := .builtin .append, args := #[s, x], argTypes := #[t, t] }) (ht : P.underlying t = some (.slice 52)) (hinf : (P.info? 52).map (fun i => (i.zero, i.size, i.bytes)) = some (some (.int .u16 0), 1, 2))
    (v : Value) (xs : List Int) (c : Nat) (hs : a.eval s = v) (h : Lies w v xs c) (ad : Addr) (cx : Nat) (y : Int) (hx : a.eval x = .slice (some ad) 1 cx) (hc : Cells .u16 w (some ad) [y]) (h63 : xs.length + 1 ≤ 17592186044416)
    (hK : ∀ ao' c' w', Lies w' (.slice ao' (xs.length + 1) c') (xs ++ [y]) c' → w.grownBy w' (blk v) → (blk (.slice ao' (xs.length + 1) c') = blk v ∨ blk (.slice ao' (xs.length + 1) c') = some w.heap.size) → (∀ u zs d, Lies w u zs d → zs.length ≤ xs.length → Lies w' u zs d) → wpList P ops Q rest (a.put o.dst (.slice ao' (xs.length + 1) c')) w') :
    wpList P ops Q (o :: rest) a w := by
  obtain ⟨i, hi, hz, hsz, hby⟩ := info_parts hinf
  obtain ⟨ao', c', w', hr, h2, h3, h4, h5⟩ := run_append_lie (P := P) w t o.type i ht hi hz hsz hby v xs c h ad cx y hc h63
  refine wpList_plain hgd fun K hK' => ?_
  unfold Oper.wp execOp
  simp only [ho, resolve, invoke, builtin, Sem.run_bind, Sem.run_pure, Result.andThen_ok, List.map_toArray, List.map_cons, List.map_nil, hs, hx, hr]
  exact hK' _ _ (hK ao' c' w' h2 h3 h4 h5)
end

end Go.Proofs.YtddamkdkaijfjaaGreatDoor
