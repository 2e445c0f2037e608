/- strings and lists of bytes: index, convert, append in a drawn region -/
import Derived.Test.YtlpddfocihlbcaaGreatDoorBNum
import Derived.Test.YtlpddfocihlbcaaGreatDoorUApp
import Derived.Laws.Strings
import Derived.Laws.BytesString
import Derived.Deep.RegionLaw
import Derived.Laws.BitsAllLaws
namespace Go.Proofs.YtlpddfocihlbcaaGreatDoor
open Go.RowKit
set_option linter.unusedVariables false

theorem str_index {al : List Int} {s : ByteArray} (hs : s = strOfNums al) (hb : uByt al) {k : IntKind} {i : Int} (h0 : 0 ≤ i) (h1 : i < al.length) (W : World) :
    (Instr.index 9 (.string s) (.int k i)).run Tryz.prog W = .ok (.int .u8 (Nt.lb al i.toNat)) W := by
  subst hs
  have hsz : (strOfNums al).size = al.length := strOfNums_size al
  rw [run_index_string W 9 _ k i Tryz.underlying9, dif_pos ⟨h0, by omega⟩, utxt_at (by omega) hb]
theorem uByt_lt {al : List Int} (h : ∀ x ∈ al, 0 ≤ x ∧ x < 128) : uByt al := fun x hx => by have := h x hx; omega
theorem bDigs_lt : ∀ x ∈ bDigs, 0 ≤ x ∧ x < 128 := by decide +kernel
theorem bLets_lt : ∀ x ∈ bLets, 0 ≤ x ∧ x < 128 := by decide +kernel
theorem bDigs_s : (⟨#[48, 49, 50, 51, 52, 53, 54, 55, 56, 57, 97, 98, 99, 100, 101, 102]⟩ : ByteArray) = strOfNums bDigs := by kernel_rfl
theorem bLets_s : (⟨#[65, 66, 67, 68, 69, 70, 71, 72, 73, 74, 75, 76, 77, 78, 79, 80, 81, 82, 83, 84, 85, 86, 87, 88, 89, 90, 97, 98, 99, 100, 101, 102, 103, 104, 105, 106, 107, 108, 109, 110, 111, 112, 113, 114, 115, 116, 117, 118, 119, 120, 121, 122, 48, 49, 50, 51, 52, 53, 54, 55, 56, 57, 45, 95]⟩ : ByteArray) = strOfNums bLets := by kernel_rfl
theorem dig_index {k : IntKind} {i : Int} (h0 : 0 ≤ i) (h1 : i < 16) (W : World) : (Instr.index 9 (.string ⟨#[48, 49, 50, 51, 52, 53, 54, 55, 56, 57, 97, 98, 99, 100, 101, 102]⟩) (.int k i)).run Tryz.prog W = .ok (.int .u8 (bDig i)) W :=
  str_index bDigs_s (uByt_lt bDigs_lt) h0 h1 W
theorem let_index {k : IntKind} {i : Int} (h0 : 0 ≤ i) (h1 : i < 64) (W : World) : (Instr.index 9 (.string ⟨#[65, 66, 67, 68, 69, 70, 71, 72, 73, 74, 75, 76, 77, 78, 79, 80, 81, 82, 83, 84, 85, 86, 87, 88, 89, 90, 97, 98, 99, 100, 101, 102, 103, 104, 105, 106, 107, 108, 109, 110, 111, 112, 113, 114, 115, 116, 117, 118, 119, 120, 121, 122, 48, 49, 50, 51, 52, 53, 54, 55, 56, 57, 45, 95]⟩) (.int k i)).run Tryz.prog W = .ok (.int .u8 (bLet i)) W :=
  str_index bLets_s (uByt_lt bLets_lt) h0 h1 W

theorem and15 (x : Int) (h0 : 0 ≤ x) (h1 : x < 256) : bits .and .u8 x 15 = x % 16 := by
  rw [u8_and x 15 h0 h1 (by decide) (by decide), show (15 : Int).toNat = 2 ^ 4 - 1 from rfl, Nat.and_two_pow_sub_one_eq_mod]
  omega
theorem and63 (x : Int) (h0 : 0 ≤ x) (h1 : x < 4294967296) : bits .and .u32 x 63 = x % 64 := by
  rw [u32_and x 63 h0 h1 (by decide) (by decide), show (63 : Int).toNat = 2 ^ 6 - 1 from rfl, Nat.and_two_pow_sub_one_eq_mod]
  omega
theorem or8 (n : Nat) {a b P : Int} (hP : P = ((2 ^ n : Nat) : Int)) (h0 : 0 ≤ a) (h1 : a < 256) (hm : a % P = 0) (g0 : 0 ≤ b) (g1 : b < P) (g2 : b < 256) : bits .or .u8 a b = a + b := by
  rw [u8_or a b h0 h1 g0 g2]
  have hd : a = P * (a / P) := by have := Int.mul_ediv_add_emod a P; omega
  have hp : 0 < P := by omega
  have hq : 0 ≤ a / P := Int.ediv_nonneg h0 (by omega)
  have e : a.toNat = 2 ^ n * (a / P).toNat := by
    have : ((2 ^ n * (a / P).toNat : Nat) : Int) = a := by rw [Int.natCast_mul, Int.toNat_of_nonneg hq, ← hP]; exact hd.symm
    omega
  rw [e, ← Nat.two_pow_add_eq_or_of_lt (by omega)]
  omega
theorem or32 (n : Nat) {a b P : Int} (hP : P = ((2 ^ n : Nat) : Int)) (h0 : 0 ≤ a) (h1 : a < 4294967296) (hm : a % P = 0) (g0 : 0 ≤ b) (g1 : b < P) (g2 : b < 4294967296) : bits .or .u32 a b = a + b := by
  rw [u32_or a b h0 h1 g0 g2]
  have hd : a = P * (a / P) := by have := Int.mul_ediv_add_emod a P; omega
  have hp : 0 < P := by omega
  have hq : 0 ≤ a / P := Int.ediv_nonneg h0 (by omega)
  have e : a.toNat = 2 ^ n * (a / P).toNat := by
    have : ((2 ^ n * (a / P).toNat : Nat) : Int) = a := by rw [Int.natCast_mul, Int.toNat_of_nonneg hq, ← hP]; exact hd.symm
    omega
  rw [e, ← Nat.two_pow_add_eq_or_of_lt (by omega)]
  omega

theorem reads_conv {w : World} {v : Value} {zs : List Int} (h : Reads .u8 w v zs) : (convert 39 9 v).run Tryz.prog w = .ok (.string (strOfNums zs)) w := by
  obtain ⟨ao, cap, rfl, h1, h2, h3⟩ := h
  by_cases h0 : 0 < zs.length
  · obtain ⟨b, off, rfl, hb, hc⟩ := h3 h0
    exact run_convert_bytes_arg w 39 5 Tryz.underlying39 Tryz.underlying5 b off zs.length cap zs rfl hc 9 Tryz.underlying9
  · have e : zs = [] := List.eq_nil_of_length_eq_zero (by omega)
    subst e
    cases ao with
    | none => exact run_convert_bytes_nil w 39 5 Tryz.underlying39 Tryz.underlying5 0 cap 9 Tryz.underlying9
    | some ad =>
      show (convert 39 9 (.slice (some ad) 0 cap)).run Tryz.prog w = _
      rw [run_convert_bytes_string w 39 9 5 _ _ cap Tryz.underlying39 Tryz.underlying5 Tryz.underlying9, run_bytesToString w ad 0 cap [] (run_loadCells_list (P := Tryz.prog) w ad [] (fun j v hj => by simp at hj))]
      rfl
theorem breads_of_own {w : World} {B : Nat} {E : TypeId} {k : IntKind} {v : Value} {zs : List Int} {n : Nat} (hn : n = zs.length) (h : w.ownsRow B E 1 v n (zs.map (Value.int k))) : Reads k w v zs := by
  subst hn
  obtain ⟨h1, ⟨rfl, h2⟩ | ⟨g, cap, cur, rfl, h3, h4, h5, h6, h7, h8⟩⟩ := h
  · have : zs = [] := List.length_eq_zero_iff.1 h2
    subst this
    exact ⟨none, 0, rfl, Nat.le_refl _, by unfold maxLen; omega, fun h => absurd h (by simp)⟩
  · refine ⟨_, cap, rfl, h5, h6, fun hp => ⟨g, 0, rfl, (Array.getElem?_eq_some_iff.1 h4).1, fun i hi => ?_⟩⟩
    rw [Nat.zero_add, cell_of_row w g i _ _ _ h4]
    rw [Nat.mul_one] at h8
    have e : cur.toList[i]? = (zs.map (Value.int k))[i]? := by rw [← h8, List.getElem?_take_of_lt hi]
    rw [Array.getElem?_toList] at e
    rw [e]
    simp [Nt.lb, hi]
theorem own_of_made {w : World} {k : IntKind} {E : TypeId} {g m B : Nat} (h : Row k E w g (List.replicate m 0)) (hB : B ≤ g) (hm : m ≤ maxLen) : w.ownsRow B E 1 (.slice (some ⟨g, 0, none⟩) 0 m) 0 (([] : List Int).map (Value.int k)) :=
  ⟨rfl, .inr ⟨g, m, _, rfl, hB, h, by omega, hm, by simp, by simp⟩⟩
theorem bown_below {w0 w w' : World} {B : Nat} {E : TypeId} {v : Value} {n : Nat} {xs : List Value} (h : Below B w0 w) (hB : B ≤ w.heap.size) (ho : w.ownsRow B E 1 v n xs) (hg : w.grownBy w' v.ownBlock) : Below B w0 w' :=
  h.grown hg hB (fun k hk => (ho.lt k hk).1)
theorem cells_new (w : World) (E : TypeId) (k : IntKind) (zs : List Int) : Cells k (w.alloc (.cells (zs.map (Value.int k)).toArray E)) (some ⟨w.heap.size, 0, none⟩) zs := by
  intro _
  refine ⟨w.heap.size, 0, rfl, by simp, fun i hi => ?_⟩
  rw [Nat.zero_add, cell_of_row _ _ _ _ _ _ (heap_alloc_new w _)]
  simp [Nt.lb, hi]

/-- append of a list as one step of a region that draws its order -/
theorem ustep_append_ints {P : Program} {ops : Array Oper} {o : Oper} {a : Act} {w : World} {K : Act → World → Prop} {Q : Exit → Act → World → Prop} {E : Prop} (hgd : o.guard = none) (s x : Operand) (t : TypeId)
    (ho : o.op = .call { callee := .builtin .append, args := #[s, x], argTypes := #[t, t] })
    (base : Nat) (e : TypeId) (kd : IntKind) (bytes : Nat) (ht : P.underlying t = some (.slice e)) (hinf : (P.info? e).map (fun i => (i.zero, i.size, i.bytes)) = some (some (.int kd 0), 1, bytes))
    (v : Value) (n : Nat) (xs : List Int) (hs : a.eval s = v) (hown : w.ownsRow base e 1 v n (xs.map (Value.int kd))) (ao : Option Addr) (c : Nat) (ys : List Int) (hx : a.eval x = .slice ao ys.length c) (hc : Cells kd w ao ys)
    (h63 : n + ys.length ≤ maxLen) (hbytes : (n + ys.length) * bytes ≤ 140737488355328) (hbase : base ≤ w.heap.size)
    (h : ∀ v' w', w'.ownsRow base e 1 v' (n + ys.length) ((xs ++ ys).map (Value.int kd)) → w.grownBy w' v.ownBlock → K (a.put o.dst v') w') :
    if Region.wanted o (yielded ops a.tmps) = true then Oper.wp P o a w K Q else E := by
  have hw : Region.wanted o (yielded ops a.tmps) = true := by simp [Region.wanted, hgd]
  rw [if_pos hw]
  obtain ⟨v', w', hr, h2, h3⟩ := urun_append_ints (P := P) w base t o.type e kd bytes ht hinf v n xs hown ao c ys hc h63 hbytes hbase
  unfold Oper.wp execOp
  simp only [ho, resolve, invoke, builtin, Sem.run_bind, Sem.run_pure, Result.andThen_ok, List.map_toArray, List.map_cons, List.map_nil, hs, hx, hr]
  exact h v' w' h2 h3

end Go.Proofs.YtlpddfocihlbcaaGreatDoor
