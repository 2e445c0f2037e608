/- Nb, AppZero, Bytes, RefA, RefB, REM -/
import Derived.Test.YtigehipclkoecaaGreatDoorMath
import Derived.Test.YtigehipclkoecaaGreatDoorKit
import Derived.Test.YtigehipclkoecaaGreatDoorLen
import Derived.Test.YtigehipclkoecaaGreatDoorCmp
import Derived.Deep.RegionWith
import Derived.Deep.QuietTactic
import Derived.BigQuiet
import Derived.Test.YtigehipclkoecaaGreatDoorShr
namespace Go.Proofs.YtigehipclkoecaaGreatDoor
namespace Nb
open Nt (lb lb_out ext_lb lb_take lb_take_out lb_set_eq lb_set_ne lb_replicate mul_pw_cancel)

/-- 2^32 to the power of n -/
def pw : Nat → Int
  | 0 => 1
  | n + 1 => 256 * pw n

theorem pw_pos (n : Nat) : 0 < pw n := by
  induction n with
  | zero => decide
  | succ n ih => simp only [pw]; omega

theorem pw_succ (n : Nat) : pw (n + 1) = 256 * pw n := rfl
theorem pw_zero : pw 0 = 1 := rfl

theorem pw_add (m n : Nat) : pw (m + n) = pw m * pw n := by
  induction n with
  | zero => simp [pw]
  | succ n ih => rw [← Nat.add_assoc, pw_succ, ih, pw_succ, Int.mul_left_comm]

theorem pw_mono {m n : Nat} (h : m ≤ n) : pw m ≤ pw n := by
  induction n with
  | zero => have : m = 0 := by omega
            subst this; exact Int.le_refl _
  | succ n ih =>
    by_cases e : m = n + 1
    · subst e; exact Int.le_refl _
    · have := ih (by omega); have := pw_pos n; rw [pw_succ]; omega



/-- the number of the first n limbs -/
def vt (xs : List Int) : Nat → Int
  | 0 => 0
  | n + 1 => vt xs n + lb xs n * pw n

/-- the number of a list -/
def val (xs : List Int) : Int := vt xs xs.length

def Ok (xs : List Int) : Prop := ∀ i, 0 ≤ lb xs i ∧ lb xs i < 256

/-- the list of its number: no nought at its end -/
def Canon (xs : List Int) : Prop := Ok xs ∧ (xs ≠ [] → lb xs (xs.length - 1) ≠ 0)

theorem vt_zero (xs : List Int) : vt xs 0 = 0 := rfl
theorem vt_succ (xs : List Int) (n : Nat) : vt xs (n + 1) = vt xs n + lb xs n * pw n := rfl



theorem vt_out {xs : List Int} {n : Nat} (h : xs.length ≤ n) : vt xs n = val xs := by
  induction n with
  | zero => unfold val; rw [show xs.length = 0 by omega]
  | succ n ih =>
    by_cases e : xs.length = n + 1
    · unfold val; rw [e]
    · rw [vt_succ, ih (by omega), lb_out (by omega)]; simp

theorem vt_bounds {xs : List Int} (h : Ok xs) (n : Nat) : 0 ≤ vt xs n ∧ vt xs n < pw n := by
  induction n with
  | zero => simp [vt, pw]
  | succ n ih =>
    have hp := pw_pos n
    have hx := h n
    have h1 : 0 ≤ lb xs n * pw n := Int.mul_nonneg hx.1 (by omega)
    have h2 : lb xs n * pw n ≤ 255 * pw n := Int.mul_le_mul_of_nonneg_right (by omega) (by omega)
    rw [vt_succ, pw_succ]
    omega

theorem val_nonneg {xs : List Int} (h : Ok xs) : 0 ≤ val xs := (vt_bounds h _).1
theorem val_lt {xs : List Int} (h : Ok xs) : val xs < pw xs.length := (vt_bounds h _).2

/-- two lists that agree on the first n limbs -/
theorem vt_congr {xs ys : List Int} {n : Nat} (h : ∀ i, i < n → lb xs i = lb ys i) : vt xs n = vt ys n := by
  induction n with
  | zero => rfl
  | succ n ih => rw [vt_succ, vt_succ, ih (fun i hi => h i (by omega)), h n (by omega)]



/-- one number, one row of limbs -/
theorem vt_inj {xs ys : List Int} (hx : Ok xs) (hy : Ok ys) {n : Nat} (h : vt xs n = vt ys n) : ∀ i, i < n → lb xs i = lb ys i := by
  induction n with
  | zero => intro i hi; omega
  | succ n ih =>
    rw [vt_succ, vt_succ] at h
    obtain ⟨h1, h2⟩ := mul_pw_cancel (pw_pos n) (vt_bounds hx n) (vt_bounds hy n) h
    intro i hi
    by_cases e : i = n
    · subst e; exact h1
    · exact ih h2 i (by omega)



theorem canon_low {xs : List Int} (h : Canon xs) (hn : xs ≠ []) : pw (xs.length - 1) ≤ val xs := by
  obtain ⟨n, hl⟩ : ∃ n, xs.length = n + 1 := ⟨xs.length - 1, by have := List.length_pos_iff.2 hn; omega⟩
  have h0 := h.2 hn
  rw [hl, Nat.add_sub_cancel] at h0 ⊢
  have hb := h.1 n
  have hv := vt_bounds h.1 n
  unfold val
  rw [hl, vt_succ]
  have : 1 * pw n ≤ lb xs n * pw n := Int.mul_le_mul_of_nonneg_right (by omega) (by have := pw_pos n; omega)
  omega

/-- the longer list is the greater number's -/
theorem canon_lt {xs ys : List Int} (hx : Ok xs) (hy : Canon ys) (h : xs.length < ys.length) : val xs < val ys := by
  have h1 := val_lt hx
  have h2 := canon_low hy (by intro e; subst e; simp at h)
  have h3 := pw_mono (m := xs.length) (n := ys.length - 1) (by omega)
  omega

theorem canon_unique {xs ys : List Int} (hx : Canon xs) (hy : Canon ys) (h : val xs = val ys) : xs = ys := by
  have hl : xs.length = ys.length := by
    rcases Nat.lt_trichotomy xs.length ys.length with h' | h' | h'
    · have := canon_lt hx.1 hy h'; omega
    · exact h'
    · have := canon_lt hy.1 hx h'; omega
  exact ext_lb hl (vt_inj hx.1 hy.1 (by unfold val at h; rw [hl] at h ⊢; exact h))

theorem val_nil : val [] = 0 := rfl

theorem canon_nil : Canon [] := ⟨fun i => by simp [lb], fun h => absurd rfl h⟩

theorem canon_zero {xs : List Int} (h : Canon xs) : val xs = 0 ↔ xs = [] := by
  constructor
  · intro e; exact canon_unique h canon_nil (by rw [e, val_nil])
  · intro e; subst e; rfl





theorem ok_take {xs : List Int} (h : Ok xs) (k : Nat) : Ok (xs.take k) := by
  intro i
  by_cases e : i < k
  · rw [lb_take e]; exact h i
  · rw [lb_take_out (by omega)]; omega

theorem val_take {xs : List Int} {k : Nat} (hk : k ≤ xs.length) : val (xs.take k) = vt xs k := by
  unfold val
  rw [List.length_take, Nat.min_eq_left hk]
  exact vt_congr fun i hi => lb_take hi

/-- noughts at the end say nothing -/
theorem vt_cut {xs : List Int} {k n : Nat} (hk : k ≤ n) (h : ∀ i, k ≤ i → i < n → lb xs i = 0) : vt xs n = vt xs k := by
  induction n with
  | zero => rw [show k = 0 by omega]
  | succ n ih =>
    by_cases e : k = n + 1
    · rw [e]
    · rw [vt_succ, h n (by omega) (by omega), ih (by omega) (fun i a b => h i a (by omega))]; simp

theorem canon_take {xs : List Int} {k : Nat} (ho : Ok xs) (hk : k ≤ xs.length) (h0 : 0 < k → lb xs (k - 1) ≠ 0) : Canon (xs.take k) := by
  refine ⟨ok_take ho k, fun hn => ?_⟩
  have hl : (xs.take k).length = k := by rw [List.length_take, Nat.min_eq_left hk]
  have hp := List.length_pos_iff.2 hn
  rw [hl] at hp ⊢
  rw [lb_take (by omega)]
  exact h0 hp






theorem ok_set {xs : List Int} (h : Ok xs) {i : Nat} {v : Int} (hv : 0 ≤ v ∧ v < 256) : Ok (xs.set i v) := by
  intro j
  by_cases e : i = j
  · subst e
    by_cases hl : i < xs.length
    · rw [lb_set_eq hl]; exact hv
    · rw [lb_out (by simp; omega)]; omega
  · rw [lb_set_ne e]; exact h j

theorem vt_set {xs : List Int} {i n : Nat} (h : n ≤ i) (v : Int) : vt (xs.set i v) n = vt xs n :=
  vt_congr fun j hj => lb_set_ne (by omega) v

theorem ok_nil : Ok [] := canon_nil.1

theorem ok_replicate (n : Nat) : Ok (List.replicate n 0) := by
  intro i
  by_cases h : i < n <;> simp [lb, h]



/-- equal above a place, less there: less -/
theorem vt_lt_at {xs ys : List Int} (hx : Ok xs) (hy : Ok ys) {p n : Nat} (hp : p < n) (he : ∀ i, p < i → i < n → lb xs i = lb ys i) (hl : lb xs p < lb ys p) : vt xs n < vt ys n := by
  induction n with
  | zero => omega
  | succ n ih =>
    by_cases e : p = n
    · subst e
      rw [vt_succ, vt_succ]
      have h1 := vt_bounds hx p
      have h2 := vt_bounds hy p
      have : (lb xs p + 1) * pw p ≤ lb ys p * pw p := Int.mul_le_mul_of_nonneg_right (by omega) (by have := pw_pos p; omega)
      rw [Int.add_mul] at this
      omega
    · rw [vt_succ, vt_succ, he n (by omega) (by omega)]
      have := ih (by omega) (fun i a b => he i a (by omega))
      omega


theorem vt_out_le {xs : List Int} {n m : Nat} (h : xs.length ≤ n) (h2 : xs.length ≤ m) : vt xs n = vt xs m := by rw [vt_out h, vt_out h2]

theorem lb_snoc_lt {xs : List Int} {z : Int} {i : Nat} (h : i < xs.length) : lb (xs ++ [z]) i = lb xs i := by
  simp [lb, List.getElem?_append_left h]
theorem lb_snoc (xs : List Int) (z : Int) : lb (xs ++ [z]) xs.length = z := by simp [lb]
/-- one byte more at the end -/
theorem val_snoc (xs : List Int) (z : Int) : val (xs ++ [z]) = val xs + z * pw xs.length := by
  unfold val
  rw [List.length_append, List.length_singleton, vt_succ, lb_snoc, vt_congr (ys := xs) (fun i hi => lb_snoc_lt hi)]
theorem ok_snoc {xs : List Int} {z : Int} (h : Ok xs) (hz : 0 ≤ z ∧ z < 256) : Ok (xs ++ [z]) := by
  intro i
  by_cases h1 : i < xs.length
  · rw [lb_snoc_lt h1]; exact h i
  · by_cases h2 : i = xs.length
    · subst h2; rw [lb_snoc]; exact hz
    · rw [lb_out (by simp; omega)]; omega

/-- four bytes a limb -/
theorem pw_four (n : Nat) : pw (4 * n) = Nt.pw n := by
  induction n with
  | zero => rfl
  | succ n ih => rw [Nat.mul_succ, pw_add, ih, Nt.pw_succ, show pw 4 = 4294967296 by decide, Int.mul_comm]

end Nb
end Go.Proofs.YtigehipclkoecaaGreatDoor

namespace Go.Proofs.YtigehipclkoecaaGreatDoor
open Go.RowKit
theorem zeroCells_one (z : Value) (m : Nat) : (Builtin.zeroCells #[z] m).toList = List.replicate m z := by
  apply List.ext_getElem?
  intro j
  by_cases hj : j < m
  · simp [Builtin.zeroCells, hj, Nat.mod_one]
  · simp [Builtin.zeroCells, hj]

section
variable {P : Program} (w : World)
theorem run_append_zeros (base : Nat) (t ti ty e : TypeId) (kz kd : IntKind) (i : TypeInfo) (bytes : Nat) (ht : P.underlying t = some (.slice e)) (hti : P.underlying ti = some (.int kz)) (hi : P.info? e = some i) (hz : i.zero = some (.int kd 0))
    (hsize : i.size = 1) (hby : i.bytes = bytes)
    (v : Value) (n : Nat) (xs : List Value) (hown : w.ownsRow base e 1 v n xs) (m : Nat)
    (h63 : n + m ≤ maxLen) (hbytes : (n + m) * bytes ≤ 140737488355328) (hbase : base ≤ w.heap.size) :
    ∃ v' w', (Builtin.append_ #[t, ti] ty #[v, .int .i64 (m : Int)]).run P w = .ok v' w' ∧ w'.ownsRow base e 1 v' (n + m) (xs ++ List.replicate m (.int kd 0)) ∧ w.grownBy w' v.ownBlock := by
  subst hby
  have hsmall : n + m ≤ 9223372036854775807 := by simp only [maxLen] at h63; omega
  have hlen : (xs ++ List.replicate m (Value.int kd 0)).length = (n + m) * 1 := by rw [List.length_append, hown.1, List.length_replicate, Nat.add_mul, Nat.mul_one m]
  have hwrap : IntKind.i64.wrap (m : Int) = (m : Int) := by rw [IntKind.wrap_i64]; omega
  have hneg : ¬ ((m : Int) < 0) := by omega
  have hmb : ¬ (281474976710656 < (m : Int) * (i.bytes : Int)) := by
    have h1 : m * i.bytes ≤ (n + m) * i.bytes := Nat.mul_le_mul_right _ (by omega)
    have h2 : ((m * i.bytes : Nat) : Int) = (m : Int) * (i.bytes : Int) := by simp
    omega
  have grown : ∀ (old : Nat), old < n + m → ∀ (row : Option Nat),
      (w.drew.alloc (.cells (xs.toArray ++ (List.replicate m (Value.int kd 0)).toArray ++ Builtin.zeroCells (Value.int kd 0).cells (grownCap w (n + m) old e - (n + m))) e)).ownsRow base e 1
        (.slice (some ⟨w.heap.size, 0, none⟩) (n + m) (grownCap w (n + m) old e)) (n + m) (xs ++ List.replicate m (Value.int kd 0)) ∧
      w.grownBy (w.drew.alloc (.cells (xs.toArray ++ (List.replicate m (Value.int kd 0)).toArray ++ Builtin.zeroCells (Value.int kd 0).cells (grownCap w (n + m) old e - (n + m))) e)) row := by
    intro old ho row
    have hge := grownCap_ge w (n + m) old e
    have hcm : grownCap w (n + m) old e ≤ maxLen := grownCap_le_maxLen w (n + m) old e h63
    refine ⟨⟨hlen, .inr ⟨w.heap.size, _, _, rfl, hbase, heap_alloc_new w.drew _, hge, hcm, ?_, ?_⟩⟩, ⟨rfl, rfl, rfl, by simp, fun k hk _ => Below.heap_alloc w.drew _ k hk⟩⟩
    · simp only [Array.size_append, List.size_toArray, size_zeroCells, List.length_replicate, hown.1]
      simp [Value.cells]
      omega
    · simp only [Array.toList_append, List.append_assoc]
      rw [← List.append_assoc, ← hlen]
      exact List.take_left
  have hzc : Builtin.zeroCells (Value.int kd 0).cells m = (List.replicate m (Value.int kd 0)).toArray := by
    apply Array.ext'
    exact zeroCells_one _ _
  rcases hown.2 with ⟨rfl, rfl⟩ | ⟨g, cap, cur, rfl, hbg, hg, hnc, hcm, hcs, htake⟩
  · have hx : xs = [] := List.eq_nil_of_length_eq_zero (by simpa using hown.1)
    subst hx
    by_cases hm : m = 0
    · subst hm
      refine ⟨.slice none 0 0, w, ?_, World.ownsRow_nil w base e 1, ⟨rfl, rfl, rfl, Nat.le_refl _, fun _ _ _ => rfl⟩⟩
      simp [Builtin.append_, run_underlying ht, run_underlying hti, sizeOf, typeInfo, hi, asInt, asIntOf, IntKind.wrap_i64]
    · have hgr := grown 0 (by omega) (Value.ownBlock (.slice none 0 0))
      simp only [Nat.zero_add, List.nil_append] at hgr ⊢
      refine ⟨_, _, ?_, hgr.1, hgr.2⟩
      have h63' : ¬ (9223372036854775807 < (m : Int)) := by omega
      have h48' : ¬ (281474976710656 < Builtin.nextslicecap m 0 * i.bytes) := by rw [nextslicecap_zero (by omega)]; have hb := hbytes; simp only [Nat.zero_add] at hb; omega
      simp [Builtin.append_, run_underlying ht, run_underlying hti, sizeOf, typeInfo, zeroValue, hi, hz, hsize, asInt, asIntOf, hwrap, hneg, hmb, hm, h63', h48', Question.forced, run_firstCells_none, newRow, grownCap, hzc]
  · by_cases hroom : n + m ≤ cap
    · have hfit : n + (List.replicate m (Value.int kd 0)).length ≤ cur.size := by rw [List.length_replicate, hcs]; omega
      have hst := run_storeCells_at P g n e (List.replicate m (Value.int kd 0)) 0 cur w hg (by simpa using hfit) (by intro u hu; rw [(List.mem_replicate.1 hu).2]; rfl)
      simp only [Nat.add_zero] at hst
      refine ⟨.slice (some ⟨g, 0, none⟩) (n + m) cap, w.setRow g (cur.toList.take n ++ List.replicate m (Value.int kd 0) ++ cur.toList.drop (n + m)).toArray, ?_, ⟨hlen, .inr ⟨g, cap, _, rfl, hbg, setRow_heap w g cur _ e _ hg, hroom, hcm, ?_, ?_⟩⟩, ⟨rfl, rfl, rfl, by simp, fun k _ hk => setRow_other w g k _ (fun e => hk (by simp [Value.ownBlock, e]))⟩⟩
      · by_cases hm : m = 0
        · subst hm
          simp at hst
          simp [Builtin.append_, run_underlying ht, run_underlying hti, sizeOf, typeInfo, hi, hsize, asInt, asIntOf, IntKind.wrap_i64, hnc, Addr.add_lit, hst]
        · simp at hst
          simp [Builtin.append_, run_underlying ht, run_underlying hti, sizeOf, typeInfo, zeroValue, hi, hz, hsize, asInt, asIntOf, hwrap, hneg, hmb, hm, hroom, Addr.add_lit, hzc, hst]
      · simp only [List.size_toArray, List.length_append, List.length_take, List.length_drop, Array.length_toList, List.length_replicate]
        omega
      · simp only [Nat.mul_one] at htake
        rw [htake, ← hlen]
        exact List.take_left
    · have holds : ∀ j u, xs[j]? = some u → w.cell? ((⟨g, 0, none⟩ : Addr).add j) = some u := hown.cells (g := g) rfl
      have hgr := grown cap (by omega) (Value.ownBlock (.slice (some ⟨g, 0, none⟩) n cap))
      refine ⟨_, _, ?_, hgr.1, hgr.2⟩
      have h63' : ¬ (9223372036854775807 < ((n : Int) + (m : Int))) := by omega
      have h48' : ¬ (281474976710656 < Builtin.nextslicecap (n + m) cap * i.bytes) := by have := growslice_fits (need := n + m) (old := cap) (by omega) hbytes; omega
      have hfo := run_firstCells_some (P := P) w.drew i.size n ⟨g, 0, none⟩ n cap xs (by rw [hsize]; exact hown.1) (by simpa using holds)
      rw [hsize] at hfo
      have hm : m ≠ 0 := by omega
      simp [Builtin.append_, run_underlying ht, run_underlying hti, sizeOf, typeInfo, zeroValue, hi, hz, hsize, asInt, asIntOf, hwrap, hneg, hmb, hm, hroom, h63', h48', Question.forced, hfo, newRow, grownCap, hzc]

theorem wpList_append_zeros {ops : Array Oper} {rest : List Oper} {o : Oper} {a : Act} {Q : Exit → Act → World → Prop} (hgd : o.guard = none) (s x : Operand) (t ti : TypeId)
    (ho : o.op = .call { callee := .builtin .append, args := #[s, x], argTypes := #[t, ti] })
    (base : Nat) (e : TypeId) (kz kd : IntKind) (bytes : Nat) (ht : P.underlying t = some (.slice e)) (hti : P.underlying ti = some (.int kz)) (hinf : (P.info? e).map (fun i => (i.zero, i.size, i.bytes)) = some (some (.int kd 0), 1, bytes))
    (v : Value) (n : Nat) (xs : List Value) (hs : a.eval s = v) (hown : w.ownsRow base e 1 v n xs) (m : Nat) (M : Int) (hx : a.eval x = .int .i64 M) (hM : M = (m : Int))
    (h63 : n + m ≤ maxLen) (hbytes : (n + m) * bytes ≤ 140737488355328) (hbase : base ≤ w.heap.size)
    (h : ∀ v' w', w'.ownsRow base e 1 v' (n + m) (xs ++ List.replicate m (.int kd 0)) → w.grownBy w' v.ownBlock → wpList P ops Q rest (a.put o.dst v') w') : wpList P ops Q (o :: rest) a w := by
  obtain ⟨i, hi, hz, hsz, hby⟩ := info_parts hinf
  refine wpList_plain hgd fun K hK => ?_
  subst hM
  obtain ⟨v', w', hr, h2, h3⟩ := run_append_zeros (P := P) w base t ti o.type e kz kd i bytes ht hti hi hz hsz hby v n xs hown m h63 hbytes hbase
  unfold Oper.wp execOp
  simp only [ho, resolve, invoke, builtin, Sem.run_bind, Sem.run_pure, Result.andThen_ok, List.map_toArray, List.map_cons, List.map_nil, hs, hx, hr]
  exact hK _ _ (h v' w' h2 h3)

end

section
variable {P : Program} (w : World)
theorem run_append_none (base : Nat) (t ty e : TypeId) (i : TypeInfo) (size : Nat) (ht : P.underlying t = some (.slice e)) (hi : P.info? e = some i)
    (v : Value) (n c : Nat) (xs : List Value) (hown : w.ownsRow base e size v n xs) :
    (Builtin.append_ #[t, t] ty #[v, .slice none 0 c]).run P w = .ok v w := by
  rcases hown.2 with ⟨rfl, rfl⟩ | ⟨g, cap, cur, rfl, _, _, hnc, _⟩
  · simp [Builtin.append_, run_underlying ht, sizeOf, typeInfo, hi, Builtin.lenOf, Builtin.firstCells]
  · simp [Builtin.append_, run_underlying ht, sizeOf, typeInfo, hi, Builtin.lenOf, Builtin.firstCells, hnc, storeCells]

/-- append(v, src...), v the call's own, src whatever: nil, empty or not -/
theorem wpList_append_cells {ops : Array Oper} {rest : List Oper} {o : Oper} {a : Act} {Q : Exit → Act → World → Prop} (hgd : o.guard = none) (s x : Operand) (t : TypeId)
    (ho : o.op = .call { callee := .builtin .append, args := #[s, x], argTypes := #[t, t] })
    (base : Nat) (e : TypeId) (kd : IntKind) (bytes : Nat) (ht : P.underlying t = some (.slice e)) (hinf : (P.info? e).map (fun i => (i.zero, i.size, i.bytes)) = some (some (.int kd 0), 1, bytes))
    (v : Value) (n : Nat) (xs : List Int) (hs : a.eval s = v) (hown : w.ownsRow base e 1 v n (xs.map (Value.int kd))) (ao : Option Addr) (c : Nat) (ys : List Int) (hx : a.eval x = .slice ao ys.length c) (hc : Cells kd w ao ys)
    (h63 : n + ys.length ≤ maxLen) (hbytes : (n + ys.length) * bytes ≤ 140737488355328) (hbase : base ≤ w.heap.size)
    (h : ∀ v' w', w'.ownsRow base e 1 v' (n + ys.length) ((xs ++ ys).map (Value.int kd)) → w.grownBy w' v.ownBlock → wpList P ops Q rest (a.put o.dst v') w') : wpList P ops Q (o :: rest) a w := by
  obtain ⟨i, hi, hz, hsz, hby⟩ := info_parts hinf
  cases ao with
  | none =>
    have h0 : ys = [] := by
      rcases Nat.eq_zero_or_pos ys.length with h0 | h0
      · exact List.eq_nil_of_length_eq_zero h0
      · obtain ⟨b, off, he, _⟩ := hc h0; cases he
    subst h0
    refine wpList_plain hgd fun K hK => ?_
    have hr := run_append_none (P := P) w base t o.type e i 1 ht hi v n c _ hown
    simp only [List.length_nil] at hx
    unfold Oper.wp execOp
    simp only [ho, resolve, invoke, builtin, Sem.run_bind, Sem.run_pure, Result.andThen_ok, List.map_toArray, List.map_cons, List.map_nil, hs, hx, hr]
    exact hK _ _ (h v w (by simpa using hown) ⟨rfl, rfl, rfl, Nat.le_refl _, fun _ _ _ => rfl⟩)
  | some ad =>
    refine wpList_append_own w hgd s x t ho base e i (.int kd 0) 1 bytes ht hi hz hsz hby rfl (by decide) v n _ hs hown ad ys.length c (ys.map (Value.int kd)) hx (by simp) ?_ (ints_oneCell _ _) h63 hbytes hbase ?_
    · intro j u hu
      have hj : j < ys.length := by have := (List.getElem?_eq_some_iff.1 hu).1; simpa using this
      obtain ⟨b, off, he, _, hcell⟩ := hc (by omega)
      cases he
      rw [Addr.add_lit, hcell j hj]
      simp [hj] at hu
      rw [← hu]; simp [Nt.lb, hj]
    · intro v' w' h1 h2 _
      exact h v' w' (by simpa using h1) h2
end

/-- noughts at the end say nothing -/
theorem val_noughts (xs : List Int) (m : Nat) : Nt.val (xs ++ List.replicate m 0) = Nt.val xs := by
  have e : ∀ i, Nt.lb (xs ++ List.replicate m 0) i = Nt.lb xs i := by
    intro i
    by_cases h : i < xs.length
    · exact lb_append_left h
    · rw [Nt.lb_out (xs := xs) (by omega)]
      simp only [Nt.lb, List.getD_eq_getElem?_getD]
      rw [List.getElem?_append_right (by omega)]
      by_cases h2 : i - xs.length < m <;> simp [h2]
  unfold Nt.val
  rw [Nt.vt_congr (ys := xs) (fun i _ => e i)]
  exact Nt.vt_out (by simp)
theorem ok_noughts {xs : List Int} (h : Nt.Ok xs) (m : Nat) : Nt.Ok (xs ++ List.replicate m 0) := by
  intro i
  by_cases h' : i < xs.length
  · rw [lb_append_left h']; exact h i
  · simp only [Nt.lb, List.getD_eq_getElem?_getD]
    rw [List.getElem?_append_right (by omega)]
    by_cases h2 : i - xs.length < m <;> simp [h2]

/-- what is owned reads as its numbers -/
theorem reads_of_owns {w : World} {base : Nat} {e : TypeId} {k : IntKind} {v : Value} {n : Nat} {zs : List Int} (h : w.ownsRow base e 1 v n (zs.map (Value.int k))) : Reads k w v zs := by
  obtain ⟨h1, h2⟩ := h
  have hl : zs.length = n := by simpa using h1
  subst hl
  rcases h2 with ⟨rfl, h0⟩ | ⟨g, cap, cur, rfl, _, hg, hnc, hcm, _, htake⟩
  · refine ⟨none, 0, by rw [h0], by omega, by unfold maxLen; omega, fun hp => by omega⟩
  · refine ⟨some ⟨g, 0, none⟩, cap, rfl, hnc, hcm, fun _ => ⟨g, 0, rfl, (Array.getElem?_eq_some_iff.1 hg).1, fun i hi => ?_⟩⟩
    rw [Nat.zero_add, cell_of_row w g i cur e (0, 0) hg]
    have : (cur.toList.take (zs.length * 1))[i]? = (zs.map (Value.int k))[i]? := by rw [htake]
    rw [List.getElem?_take, if_pos (by omega)] at this
    simp only [Array.getElem?_toList] at this
    rw [this]
    simp [Nt.lb, hi]

end Go.Proofs.YtigehipclkoecaaGreatDoor

namespace Go.Proofs.YtigehipclkoecaaGreatDoor
open Go.RowKit

/-- a slice's length: for a loop's measure -/
def lenOfV : Value → Nat | .slice _ n _ => n | _ => 0

/-- bytes of a number -/
def BArg (w : World) (v : Value) (n : Int) (k : Nat) : Prop := ∃ zs, Reads .i64 w v zs ∧ Nb.Ok zs ∧ Nb.val zs = n ∧ zs.length ≤ k
/-- the bytes of a number: none 0 at the end -/
def BNum (w : World) (v : Value) (n : Int) (k : Nat) : Prop := ∃ zs, Reads .i64 w v zs ∧ Nb.Canon zs ∧ Nb.val zs = n ∧ zs.length ≤ k
theorem BNum.arg {w : World} {v : Value} {n : Int} {k : Nat} (h : BNum w v n k) : BArg w v n k := by
  obtain ⟨zs, h1, h2, h3, h4⟩ := h
  exact ⟨zs, h1, h2.1, h3, h4⟩
theorem BArg.below {w w' : World} {v : Value} {n : Int} {k : Nat} (h : BArg w v n k) (hb : Below w.heap.size w w') : BArg w' v n k := by
  obtain ⟨zs, h1, h2⟩ := h
  exact ⟨zs, h1.below hb, h2⟩
theorem BNum.below {w w' : World} {v : Value} {n : Int} {k : Nat} (h : BNum w v n k) (hb : Below w.heap.size w w') : BNum w' v n k := by
  obtain ⟨zs, h1, h2⟩ := h
  exact ⟨zs, h1.below hb, h2⟩

set_option maxHeartbeats 1000000 in
theorem rtrim_any {w : World} {va : Value} {A : Int} {ka : Nat} (ha : BArg w va A ka) :
    Calls Tryz.prog 96 #[va] w fun e w' => w' = w ∧ ∃ v, e = .returned v ∧ BNum w v A ka := by
  obtain ⟨xs, ⟨ao, cap, rfl, hl, hm, hc⟩, ho, rfl, hka⟩ := ha
  unfold maxLen at hm
  obtain ⟨n, hn⟩ : ∃ n, n = xs.length := ⟨_, rfl⟩
  have Hn := hide hn
  rw [← hn] at hl hka ⊢
  clear hn
  go_enter Tryz.func96, Tryz.ntmps96
  go_wp2
  go_loop [0] (fun s => ∃ k : Nat, k ≤ n ∧ s = .slice ao k cap ∧ ∀ i, k ≤ i → i < n → Nt.lb xs i = 0) (fun s => lenOfV s)
  case atStart => exact ⟨n, Nat.le_refl _, rfl, fun i h1 h2 => by omega⟩
  case round =>
    obtain ⟨k, hk, rfl, hz⟩ := hrel
    have hfin : (0 < k → Nt.lb xs (k - 1) ≠ 0) → BNum w (.slice ao k cap) (Nb.val xs) ka := by
      intro h
      have hx : n = xs.length := Hn.out
      have hlt : (xs.take k).length = k := by rw [List.length_take]; omega
      refine ⟨xs.take k, ⟨ao, cap, by rw [hlt], by omega, by unfold maxLen; omega, hc.take (by omega)⟩, Nb.canon_take ho (by omega) h, ?_, by omega⟩
      rw [Nb.val_take (by omega), ← Nb.vt_cut (xs := xs) (by omega) (fun i h1 h2 => hz i h1 h2), hx]
      rfl
    have HF := hide hfin
    clear hfin
    by_cases hp : 0 < k
    · obtain ⟨b, off, rfl, hb, hcell⟩ := hc (by have := Hn.out; omega)
      have hg := hcell (k - 1) (by have := Hn.out; omega)
      clear hcell
      have hp' : (0 : Int) < (k : Int) := by omega
      have hc0 : ¬ cap = 0 := by omega
      by_cases hq : Nt.lb xs (k - 1) = 0
      · have hq' : (Nt.lb xs (k - 1) == 0) = true := by simp [hq]
        have Hq := hide hq
        clear hq
        go_wp2
        go_round
        case rel => exact ⟨k - 1, by omega, by simp, fun i h1 h2 => by
          by_cases e : i = k - 1
          · subst e; exact Hq.out
          · exact hz i (by omega) h2⟩
        case measure => simp [lenOfV]; omega
      · have hq' : (Nt.lb xs (k - 1) == 0) = false := by simp [hq]
        have Hq := hide hq
        clear hq
        go_wp2
        go_ret
        exact ⟨rfl, _, rfl, HF.out (fun _ => Hq.out)⟩
    · have hk0 : k = 0 := by omega
      subst hk0
      go_wp2
      go_ret
      exact ⟨rfl, _, rfl, HF.out (fun h => by omega)⟩

/-- one number appended: the block that it is laid in -/
theorem cells_one (w : World) (E : TypeId) (k : IntKind) (x : Int) : Cells k (w.alloc (.cells #[.int k x] E)) (some ⟨w.heap.size, 0, none⟩) [x] := by
  intro _
  refine ⟨w.heap.size, 0, rfl, by simp, fun i hi => ?_⟩
  have hi0 : i = 0 := by simpa using hi
  subst hi0
  simp [Nt.lb]

theorem below_own {w0 w w' : World} {B : Nat} {E : TypeId} {v : Value} {n : Nat} {xs : List Value} (h : Below B w0 w) (hB : B ≤ w.heap.size) (ho : w.ownsRow B E 1 v n xs) (hg : w.grownBy w' v.ownBlock) : Below B w0 w' :=
  h.grown hg hB (fun k hk => (ho.lt k hk).1)

theorem byte_step {V x P : Int} : V + (x % 256) * P + (x / 256) * (256 * P) = V + x * P := by
  have e := Int.emod_add_mul_ediv x 256
  have e2 : (x % 256 + 256 * (x / 256)) * P = x * P := by rw [e]
  rw [Int.add_mul] at e2
  rw [← Int.mul_assoc, Int.mul_comm (x / 256) 256]
  omega

set_option maxHeartbeats 2000000 in
theorem bytes_any {w : World} {va : Value} {A : Int} {ka : Nat} (ha : Arg w va A ka) (hka : ka ≤ 1099511627776) :
    Calls Tryz.prog 54 #[va] w fun e w' => ∃ v, e = .returned v ∧ BNum w' v A (4 * ka) ∧ Below w.heap.size w w' := by
  obtain ⟨xs, ⟨ao, cap, rfl, hl, hm, hxc⟩, hx, rfl, hxk⟩ := ha
  obtain ⟨i0, hi, hz0, hz1, hz2⟩ := info_parts Tryz.infoI64
  go_enter Tryz.func54, Tryz.ntmps54
  go_wp2_with (at_make; refine wpList_make_own _ rfl _ _ 93 rfl w.heap.size 3 i0 (.int .i64 0) 1 Tryz.underlying93 hi hz0 hz1 _ _ _ (4 * xs.length) rfl rfl (by omega) ?b2 ?b3 (Nat.le_refl _) ?_)
  case b2 => rw [hz2]; omega
  case b3 => unfold maxLen; omega
  intro w0 hown0 hgrow0
  have hbel0 : Below w.heap.size w w0 := (Below.refl _ _).grown hgrow0 (Nat.le_refl _) (fun k h => by cases h)
  go_wp2
  go_loopw [3, 4] (fun out si wr => ∃ (i : Nat) (zs : List Int), i ≤ xs.length ∧ si = .int .i64 i ∧ zs.length = 4 * i ∧ Nb.Ok zs ∧ Nb.val zs = Nt.vt xs i ∧ wr.ownsRow w.heap.size 3 1 out zs.length (zs.map (Value.int .i64)) ∧ Below w.heap.size w wr)
    (fun _ si _ => xs.length - (intOf si).toNat)
  case atStart => exact ⟨0, [], by omega, rfl, rfl, Nb.ok_nil, rfl, hown0, hbel0⟩
  case round =>
    obtain ⟨i, zs, hil, rfl, hzl, hzo, hzv, hown, hbr⟩ := hrel
    clear hown0 hgrow0 hbel0
    by_cases hlt : i < xs.length
    · obtain ⟨b, off, rfl, hb, hcell⟩ := (hxc.below hbr) (by omega)
      have hg := hcell i hlt
      obtain ⟨bx0, bx1⟩ := hx i
      clear hcell
      have Hzv := hide hzv
      have Hzl := hide hzl
      clear hzv hzl
      go_wp2
      go_loopw [3, 5, 6] (fun out sx sk wq => ∃ (k : Nat) (x : Int) (ys : List Int), k ≤ 4 ∧ sk = .int .i64 k ∧ sx = .int .i64 x ∧ 0 ≤ x ∧ x < Nb.pw (4 - k) ∧ ys.length = 4 * i + k ∧ Nb.Ok ys ∧ Nb.val ys + x * Nb.pw (4 * i + k) = Nt.vt xs i + Nt.lb xs i * Nt.pw i ∧
          wq.ownsRow w.heap.size 3 1 out ys.length (ys.map (Value.int .i64)) ∧ Below w.heap.size w wq) (fun _ _ sk _ => 4 - (intOf sk).toNat)
      case atStart => exact ⟨0, Nt.lb xs i, zs, by omega, rfl, rfl, bx0, bx1, Hzl.out, hzo, by rw [Nat.add_zero, Nb.pw_four, Hzv.out], hown, hbr⟩
      case round =>
        obtain ⟨k, x, ys, hk, rfl, rfl, hx0, hx1, hyl, hyo, hyv, howq, hbq⟩ := hrel
        have Hx1 := hide hx1
        have Hyv := hide hyv
        have Hyl := hide hyl
        have hx2 : x < 4294967296 := by
          have h := Nb.pw_mono (m := 4 - k) (n := 4) (by omega)
          rw [show Nb.pw 4 = 4294967296 by decide] at h
          omega
        clear hown hx1 hyv hyl
        by_cases hkl : k < 4
        · have hsz := hbq.size
          have hlen : ys.length ≤ 4 * 1099511627776 := by have := Hyl.out; omega
          have hkl' : (k : Int) < 4 := by omega
          go_wp2_with (at_builtin; refine wpList_append_cells _ rfl _ _ 93 rfl w.heap.size 3 .i64 8 Tryz.underlying93 Tryz.infoI64 _ ys.length ys rfl (howq.alloc _) (some ⟨wr.heap.size, 0, none⟩) 1 [x % 256] rfl (cells_one _ _ _ _) (by unfold maxLen; simp; omega) (by simp; omega) (by simp; omega) ?_)
          intro v' w1 hown' hgrow
          have hb1 : Below w.heap.size w w1 := below_own (hbq.alloc hsz _) (by simp; omega) (howq.alloc _) hgrow
          have hst := byte_step (V := Nb.val ys) (x := x) (P := Nb.pw (4 * i + k))
          have Hst := hide hst
          have Hown' := hide hown'
          clear hown' hgrow howq hst
          go_wp2
          go_roundw
          case rel => exact ⟨k + 1, x / 256, ys ++ [x % 256], by omega, by go_num, rfl, by omega, by
            have h := Hx1.out
            rw [show 4 - k = (4 - (k + 1)) + 1 by omega, Nb.pw_succ] at h
            omega, by have := Hyl.out; simp; omega, Nb.ok_snoc hyo (by omega), by
            have h1 := Hyv.out
            have h2 := Hst.out
            rw [Nb.val_snoc, Hyl.out, ← Nat.add_assoc, Nb.pw_succ, h2, h1], by simpa using Hown'.out, hb1⟩
          case measure => simp [intOf]; omega
        · have hke : k = 4 := by omega
          subst hke
          go_wp2
          go_roundw
          case rel => exact ⟨i + 1, ys, by omega, by go_num, by have := Hyl.out; omega, hyo, by
            have h1 := Hyv.out
            have h2 := Hx1.out
            have h3 : x = 0 := by simp only [Nat.sub_self, Nb.pw] at h2; omega
            rw [h3, Int.zero_mul, Int.add_zero] at h1
            rw [h1]; rfl, howq, hbq⟩
          case measure => simp [intOf]; omega
    · have hke : i = xs.length := by omega
      subst hke
      go_wp2_with fail
      have hlen : zs.length ≤ 4 * ka := by omega
      refine (rtrim_any (ka := 4 * ka) ⟨zs, reads_of_owns hown, hzo, rfl, hlen⟩).mono ?_
      rintro e w2 ⟨rfl, v, rfl, hv⟩
      rw [hzv] at hv
      have Hv := hide hv
      clear hv hzv hzl
      go_wp2
      go_ret
      exact ⟨v, rfl, Hv.out, hbr⟩

/-- the top byte is the top limb's -/
theorem limbs_canon {ys zs : List Int} (hy : Nb.Canon ys) (hz : Nt.Ok zs) (hl : zs.length = (ys.length + 3) / 4) (hv : Nt.val zs = Nb.val ys) : Nt.Canon zs := by
  refine ⟨hz, fun hne h0 => ?_⟩
  obtain ⟨n, hn⟩ : ∃ n, zs.length = n + 1 := ⟨zs.length - 1, by have := List.length_pos_iff.2 hne; omega⟩
  have hye : ys ≠ [] := by intro e; subst e; rw [hn] at hl; simp at hl
  have h1 := Nb.canon_low hy hye
  have h2 : Nt.val zs = Nt.vt zs n := by
    unfold Nt.val
    rw [hn, Nt.vt_succ]
    rw [hn, Nat.add_sub_cancel] at h0
    rw [h0]; simp
  have h3 := (Nt.vt_bounds hz n).2
  have h4 := Nb.pw_mono (m := 4 * n) (n := ys.length - 1) (by omega)
  rw [Nb.pw_four] at h4
  omega

/-- what a row of limbs is worth while its bytes are laid in, from the top: those from m on are in -/
def LimbRel (ys zs : List Int) (m : Nat) : Prop :=
  Nb.val ys = Nb.vt ys m + (Nt.val zs - Nt.lb zs (m / 4) * Nt.pw (m / 4)) + Nt.lb zs (m / 4) * Nb.pw m ∧ Nt.lb zs (m / 4) < Nb.pw (4 - m % 4) ∧ ∀ j, j < m / 4 → Nt.lb zs j = 0

theorem limbRel_start (ys : List Int) : LimbRel ys (List.replicate ((ys.length + 3) / 4) 0) ys.length := by
  refine ⟨?_, ?_, fun j _ => Nt.lb_replicate _ _⟩
  · rw [Nt.lb_replicate]
    have e : Nt.val (List.replicate ((ys.length + 3) / 4) 0) = 0 := by
      unfold Nt.val; rw [Nt.vt_cut (k := 0) (by omega) (fun i _ _ => Nt.lb_replicate _ _)]; rfl
    rw [e]; simp [Nb.val]
  · rw [Nt.lb_replicate]; exact Nb.pw_pos _

theorem nt_val_set {zs : List Int} {i : Nat} (hi : i < zs.length) (q : Int) : Nt.val (zs.set i q) = Nt.val zs + (q - Nt.lb zs i) * Nt.pw i := by
  have : ∀ n, i < n → Nt.vt (zs.set i q) n = Nt.vt zs n + (q - Nt.lb zs i) * Nt.pw i := by
    intro n
    induction n with
    | zero => intro h; omega
    | succ n ih =>
      intro h
      rw [Nt.vt_succ, Nt.vt_succ]
      by_cases e : i = n
      · subst e; rw [Nt.vt_set (Nat.le_refl _), Nt.lb_set_eq hi, Int.sub_mul]; omega
      · rw [Nt.lb_set_ne e, ih (by omega)]; omega
  unfold Nt.val
  rw [List.length_set]
  exact this _ hi

/-- the limb that the next byte goes into -/
theorem limbRel_low {ys zs : List Int} {p : Nat} (h : LimbRel ys zs (p + 1)) : Nt.lb zs (p / 4) < Nb.pw (3 - p % 4) ∧ Nt.lb zs (p / 4) < 16777216 := by
  obtain ⟨_, h2, h3⟩ := h
  have key : Nt.lb zs (p / 4) < Nb.pw (3 - p % 4) := by
    by_cases e : p % 4 = 3
    · rw [h3 (p / 4) (by omega), e]; exact Nb.pw_pos _
    · rw [show (p + 1) / 4 = p / 4 by omega, show 4 - (p + 1) % 4 = 3 - p % 4 by omega] at h2
      exact h2
  have hm := Nb.pw_mono (m := 3 - p % 4) (n := 3) (by omega)
  rw [show Nb.pw 3 = 16777216 by decide] at hm
  exact ⟨key, by omega⟩

theorem limbRel_step {ys zs : List Int} {p : Nat} (hp : p / 4 < zs.length) (hb : Nt.lb ys p < 256) (h : LimbRel ys zs (p + 1)) :
    LimbRel ys (zs.set (p / 4) (Nt.lb zs (p / 4) * 256 + Nt.lb ys p)) p := by
  have hlow := (limbRel_low h).1
  obtain ⟨h1, h2, h3⟩ := h
  refine ⟨?_, ?_, fun j hj => ?_⟩
  · rw [nt_val_set hp, Nt.lb_set_eq hp, h1, Nb.vt_succ, Nb.pw_succ]
    by_cases e : p % 4 = 3
    · have h0 := h3 (p / 4) (by omega)
      obtain ⟨q, hq⟩ : ∃ q, (p + 1) / 4 = q := ⟨_, rfl⟩
      have e4 : 256 * Nb.pw p = Nt.pw q := by rw [← Nb.pw_succ, ← Nb.pw_four]; congr 1; omega
      rw [hq, h0, e4]
      simp only [Int.zero_mul, Int.zero_add, Int.sub_zero]
      omega
    · rw [show (p + 1) / 4 = p / 4 by omega]
      have e5 : Nt.lb zs (p / 4) * (256 * Nb.pw p) = Nt.lb zs (p / 4) * 256 * Nb.pw p := by rw [Int.mul_assoc]
      rw [e5, Int.sub_mul, Int.add_mul, Int.add_mul]
      omega
  · rw [Nt.lb_set_eq hp, show 4 - p % 4 = (3 - p % 4) + 1 by omega, Nb.pw_succ]
    omega
  · rw [Nt.lb_set_ne (by omega)]
    exact h3 j (by omega)

set_option maxHeartbeats 2000000 in
theorem limbs_any {w : World} {va : Value} {A : Int} {ka : Nat} (ha : BArg w va A ka) (hka : ka ≤ 8796093022208) :
    Calls Tryz.prog 55 #[va] w fun e w' => ∃ v, e = .returned v ∧ Num w.heap.size w' v A ((ka + 3) / 4) ∧ Below w.heap.size w w' := by
  go_enter Tryz.func55, Tryz.ntmps55
  go_wp2_with fail
  refine (rtrim_any ha).mono ?_
  rintro e w' ⟨rfl, v, rfl, hv⟩
  obtain ⟨ys, ⟨ao, cap, rfl, hl, hm, hyc⟩, hy, rfl, hyk⟩ := hv
  clear ha
  go_wp2_with (at_make; refine wpList_make_row _ rfl _ _ 59 rfl 44 .u32 4 Tryz.underlying59 Tryz.infoU32 _ _ _ _ ((ys.length + 3) / 4) ((ys.length + 3) / 4) rfl rfl (by omega) (by omega) (Nat.le_refl _) (by omega) (by unfold maxLen; omega) ?_)
  intro w1 hr hbel hsz
  go_wp2
  go_loopw [4] (fun si wr => ∃ (m : Nat) (zs : List Int), m ≤ ys.length ∧ si = .int .i64 ((m : Int) - 1) ∧ zs.length = (ys.length + 3) / 4 ∧ Nt.Ok zs ∧ LimbRel ys zs m ∧ Row .u32 44 wr w'.heap.size zs ∧ Below w'.heap.size w' wr)
    (fun si _ => (intOf si + 1).toNat)
  case atStart => exact ⟨ys.length, List.replicate ((ys.length + 3) / 4) 0, by omega, rfl, by simp, Nt.ok_replicate _, limbRel_start ys, hr, hbel⟩
  case round =>
    obtain ⟨m, zs, hml, rfl, hzl, hzo, hrel, hrow, hbr⟩ := hrel
    have Hzl := hide hzl
    have HR := hide hrel
    clear hzl hrel hr hbel
    by_cases hm0 : m = 0
    · subst hm0
      go_wp2
      go_ret
      have hv : Nt.val zs = Nb.val ys := by
        have h := HR.out.1
        simp only [Nat.zero_div, Nb.vt, Nt.pw, Nb.pw] at h
        omega
      have hzl : zs.length = (ys.length + 3) / 4 := Hzl.out
      refine ⟨_, rfl, ⟨zs, ?_, limbs_canon hy hzo hzl hv, hv, by omega⟩, hbr⟩
      have := hrow.made (B := w'.heap.size) (Nat.le_refl _) (n := zs.length) (Nat.le_refl _) (by rw [hzl]; unfold maxLen; omega)
      rw [List.take_length] at this
      rw [hzl] at this
      exact this
    · obtain ⟨p, rfl⟩ : ∃ p, m = p + 1 := ⟨m - 1, by omega⟩
      obtain ⟨b1, o1, rfl, hb1, hc1⟩ := (hyc.below hbr) (by omega)
      have g1 := hc1 p (by omega)
      have hp4 : p / 4 < (ys.length + 3) / 4 := by omega
      have g2 := hrow.cell (i := p / 4) (by rw [Hzl.out]; exact hp4)
      have hfz := hrow.frozen (p / 4)
      obtain ⟨by0, by1⟩ := hy.1 p
      obtain ⟨bz0, bz1⟩ := hzo (p / 4)
      have bz2 := (limbRel_low HR.out).2
      have hpl : p < ys.length := by omega
      clear hc1
      go_wp2
      go_region
      all_goals go_wp2
      all_goals go_roundw
      all_goals first
        | exact ⟨p, zs.set (p / 4) (Nt.lb zs (p / 4) * 256 + Nt.lb ys p), by omega, rfl, by rw [List.length_set, Hzl.out], Nt.ok_set hzo (by omega), limbRel_step (by rw [Hzl.out]; exact hp4) by1 HR.out, hrow.set _ _, (hbr.setCell (p := ⟨w'.heap.size, p / 4, none⟩) (Nat.le_refl _) _).drew⟩
        | simp [intOf]

theorem num_since {B B' : Nat} {w : World} {v : Value} {n : Int} {k : Nat} (h : Num B w v n k) (hB : B' ≤ B) : Num B' w v n k := by
  obtain ⟨zs, ⟨ao, h1, h2, h3⟩, h4⟩ := h
  refine ⟨zs, ⟨ao, h1, h2, fun hp => ?_⟩, h4⟩
  obtain ⟨g, rest, a, b, c⟩ := h3 hp
  exact ⟨g, rest, a, by omega, c⟩

end Go.Proofs.YtigehipclkoecaaGreatDoor

namespace Go.Proofs.YtigehipclkoecaaGreatDoor
open Go.RowKit

set_option maxHeartbeats 400000 in
theorem rnorm_any {w : World} {va : Value} {A : Int} {ka : Nat} (ha : Arg w va A ka) (hka : ka ≤ 1099511627776) :
    Calls Tryz.prog 53 #[va] w fun e w' => ∃ v, e = .returned v ∧ Num w.heap.size w' v A ka ∧ Below w.heap.size w w' := by
  go_enter Tryz.func53, Tryz.ntmps53
  go_wp2_with fail
  refine (bytes_any ha hka).mono ?_
  rintro e w1 ⟨v1, rfl, h1, hb1⟩
  go_wp2_with fail
  refine (limbs_any h1.arg (by omega)).mono ?_
  rintro e w2 ⟨v2, rfl, h2, hb2⟩
  go_wp2
  go_ret
  exact ⟨v2, rfl, (num_since h2 hb1.size).mono (by omega), below_trans hb1 hb2⟩

set_option maxHeartbeats 1000000 in
theorem rfrom_any {w : World} (X : Int) (h0 : 0 ≤ X) (h1 : X < 18446744073709551616) :
    Calls Tryz.prog 58 #[.int .u64 X] w fun e w' => ∃ v, e = .returned v ∧ Num w.heap.size w' v X 2 ∧ Below w.heap.size w w' := by
  go_enter Tryz.func58, Tryz.ntmps58
  go_wp2
  go_loopw [0, 3] (fun sx out wr => ∃ (x : Int) (zs : List Int), sx = .int .u64 x ∧ 0 ≤ x ∧ x ≤ X ∧ zs.length ≤ 8 ∧ x < Nb.pw (8 - zs.length) ∧ Nb.Ok zs ∧ Nb.val zs + x * Nb.pw zs.length = X ∧ wr.ownsRow w.heap.size 3 1 out zs.length (zs.map (Value.int .i64)) ∧ Below w.heap.size w wr)
    (fun sx _ _ => (intOf sx).toNat)
  case atStart => exact ⟨X, [], rfl, h0, Int.le_refl _, by simp, by rw [List.length_nil, show Nb.pw (8 - 0) = 18446744073709551616 by decide]; exact h1, Nb.ok_nil, by simp [Nb.val, Nb.vt, Nb.pw], by simpa using World.ownsRow_nil w w.heap.size 3 1, Below.refl _ _⟩
  case round =>
    obtain ⟨x, zs, rfl, hx0, hxX, hzl, hx1, hzo, hzv, hown, hbr⟩ := hrel
    have Hx1 := hide hx1
    have Hzv := hide hzv
    clear hx1 hzv
    by_cases hp : 0 < x
    · have hlt : zs.length < 8 := by
        by_cases h : zs.length < 8
        · exact h
        · have := Hx1.out
          rw [show 8 - zs.length = 0 by omega] at this
          simp only [Nb.pw] at this
          omega
      have hsz := hbr.size
      go_wp2_with (at_builtin; refine wpList_append_cells _ rfl _ _ 93 rfl w.heap.size 3 .i64 8 Tryz.underlying93 Tryz.infoI64 _ zs.length zs rfl (hown.alloc _) (some ⟨wr.heap.size, 0, none⟩) 1 [x % 256] rfl (cells_one _ _ _ _) (by unfold maxLen; simp; omega) (by simp; omega) (by simp; omega) ?_)
      intro v' w1 hown' hgrow
      have hb1 : Below w.heap.size w w1 := below_own (hbr.alloc hsz _) (by simp; omega) (hown.alloc _) hgrow
      have Hst := hide (byte_step (V := Nb.val zs) (x := x) (P := Nb.pw zs.length))
      have Hown' := hide hown'
      clear hown' hgrow hown
      go_wp2
      go_roundw
      case rel => exact ⟨x / 256, zs ++ [x % 256], rfl, by omega, by omega, by simp; omega, by
        have h := Hx1.out
        rw [show 8 - zs.length = (8 - (zs.length + 1)) + 1 by omega, Nb.pw_succ] at h
        rw [List.length_append, List.length_singleton]
        omega, Nb.ok_snoc hzo (by omega), by
        rw [Nb.val_snoc, List.length_append, List.length_singleton, Nb.pw_succ, Hst.out]; exact Hzv.out, by simpa using Hown'.out, hb1⟩
      case measure => simp [intOf]; omega
    · have hx00 : x = 0 := by omega
      subst hx00
      go_wp2_with fail
      refine (limbs_any (ka := 8) ⟨zs, reads_of_owns hown, hzo, rfl, hzl⟩ (by omega)).mono ?_
      rintro e w2 ⟨v, rfl, hv, hb2⟩
      have hX : Nb.val zs = X := by have := Hzv.out; rw [Int.zero_mul, Int.add_zero] at this; exact this
      rw [hX] at hv
      have Hv := hide hv
      clear hv hX
      go_wp2
      go_ret
      exact ⟨v, rfl, num_since Hv.out hbr.size, hbr.trans (hb2.mono hbr.size)⟩

theorem pb_eight : Nb.pw 8 = 18446744073709551616 := by decide

end Go.Proofs.YtigehipclkoecaaGreatDoor

namespace Go.Proofs.YtigehipclkoecaaGreatDoor
open Go.RowKit

theorem p2_8 (n : Nat) : p2 (8 * n) = Nb.pw n := by
  induction n with
  | zero => rfl
  | succ n ih => rw [Nat.mul_succ, p2_add, ih, Nb.pw_succ, show p2 8 = 256 from by decide, Int.mul_comm]

/-- the length of a number by its highest byte -/
theorem isLen_byte {xs : List Int} {k : Nat} (hx : Nb.Canon xs) (hn : 0 < xs.length) (h : IsLen (Nt.lb xs (xs.length - 1)) k) : IsLen (Nb.val xs) (8 * (xs.length - 1) + k) := by
  obtain ⟨n, hl⟩ : ∃ n, xs.length = n + 1 := ⟨xs.length - 1, by omega⟩
  have hne : xs ≠ [] := by intro e; subst e; simp at hn
  have h0 := hx.2 hne
  have hb := hx.1 n
  have hv := Nb.vt_bounds hx.1 n
  rw [hl, Nat.add_sub_cancel] at h h0 ⊢
  have hval : Nb.val xs = Nb.vt xs n + Nt.lb xs n * Nb.pw n := by unfold Nb.val; rw [hl, Nb.vt_succ]
  have hp := Nb.pw_pos n
  have hk := len_pos h (by omega)
  rw [hval]
  refine ⟨?_, fun _ => ?_⟩
  · rw [p2_add, p2_8]
    have : Nb.pw n * (Nt.lb xs n + 1) ≤ Nb.pw n * p2 k := Int.mul_le_mul_of_nonneg_left (by have := h.1; omega) (by omega)
    rw [Int.mul_add, Int.mul_comm] at this
    omega
  · rw [show 8 * n + k - 1 = 8 * n + (k - 1) by omega, p2_add, p2_8]
    have : Nb.pw n * p2 (k - 1) ≤ Nb.pw n * Nt.lb xs n := Int.mul_le_mul_of_nonneg_left (h.2 hk) (by omega)
    rw [Int.mul_comm _ (Nt.lb xs n)] at this
    omega

theorem half_step {T : Int} {j : Nat} (hp : 0 < T / p2 j) : T / p2 j / 2 = T / p2 (j + 1) ∧ p2 (j + 1 - 1) ≤ T := by
  have h2 := p2_pos j
  refine ⟨?_, ?_⟩
  · rw [Int.ediv_ediv_of_nonneg (by omega)]
    congr 1
    simp only [p2]; omega
  · rw [Nat.add_sub_cancel]
    by_cases h : p2 j ≤ T
    · exact h
    · by_cases h0 : 0 ≤ T
      · rw [Int.ediv_eq_zero_of_lt h0 (by omega)] at hp; omega
      · have := Int.ediv_neg_of_neg_of_pos (show T < 0 by omega) h2; omega

set_option maxHeartbeats 1000000 in
theorem rlen_any {w : World} {va : Value} {A : Int} {ka k : Nat} (ha : Arg w va A ka) (hka : ka ≤ 1099511627776) (hk : IsLen A k) :
    Calls Tryz.prog 127 #[va] w fun e w' => e = .returned (.int .i64 k) ∧ Below w.heap.size w w' := by
  have HK := hide hk
  clear hk
  go_enter Tryz.func127, Tryz.ntmps127
  go_wp2_with fail
  refine (bytes_any ha hka).mono ?_
  rintro e w1 ⟨v1, rfl, ⟨ys, ⟨ao, cap, rfl, hl, hm, hyc⟩, hy, rfl, hyk⟩, hb1⟩
  clear ha
  by_cases h0 : ys.length = 0
  · have h0' : ((ys.length : Int) == 0) = true := by simp [h0]
    have hye : ys = [] := List.eq_nil_of_length_eq_zero h0
    clear h0
    go_wp2
    go_ret
    have hk0 : k = 0 := isLen_unique HK.out (by rw [hye]; exact ⟨by decide, fun h => by omega⟩)
    rw [hk0]
    exact ⟨rfl, hb1⟩
  · have h0' : ((ys.length : Int) == 0) = false := by simp; intro e; subst e; simp at h0
    obtain ⟨b, off, rfl, hb, hcell⟩ := hyc (by omega)
    have hg := hcell (ys.length - 1) (by omega)
    have hp : (1 : Int) ≤ (ys.length : Int) := by omega
    obtain ⟨bx0, bx1⟩ := hy.1 (ys.length - 1)
    obtain ⟨T, hT⟩ : ∃ T, Nt.lb ys (ys.length - 1) = T := ⟨_, rfl⟩
    rw [hT] at hg bx0 bx1
    have HT := hide hT
    clear hcell hyc hT
    go_wp2
    go_loop [4, 5] (fun sn st => ∃ (j : Nat) (t : Int), sn = .int .i64 (8 * ((ys.length : Int) - 1) + j) ∧ st = .int .i64 t ∧ 0 ≤ t ∧ t < 256 ∧ t = T / p2 j ∧ (0 < j → p2 (j - 1) ≤ T) ∧ j ≤ 8) (fun _ st => (intOf st).toNat)
    case atStart => exact ⟨0, T, by simp, rfl, bx0, bx1, by simp [p2], fun h => by omega, by omega⟩
    case round =>
      obtain ⟨j, t, rfl, rfl, ht0, ht1, ht, hj, hj8⟩ := hrel
      have Ht := hide ht
      have Hj := hide hj
      clear ht hj
      by_cases hp0 : 0 < t
      · have hs := half_step (T := T) (j := j) (by rw [← Ht.out]; exact hp0)
        have hj9 : j + 1 ≤ 8 := by
          by_cases h : j + 1 ≤ 8
          · exact h
          · have h1 := hs.2
            have h2 := p2_mono (m := 8) (n := j + 1 - 1) (by omega)
            rw [show p2 8 = 256 by decide] at h2
            omega
        have Hs := hide hs
        clear hs
        go_wp2
        go_round
        case rel => exact ⟨j + 1, t / 2, by go_num, rfl, by omega, by omega, by rw [Ht.out]; exact Hs.out.1, fun _ => Hs.out.2, hj9⟩
        case measure => simp [intOf]; omega
      · have ht00 : t = 0 := by omega
        have hlt : T < p2 j := by
          have h := Ht.out
          rw [ht00] at h
          have h2 := p2_pos j
          have h3 := Int.mul_ediv_add_emod T (p2 j)
          have h4 := Int.emod_lt_of_pos T h2
          rw [← h, Int.mul_zero] at h3
          omega
        have hfin := isLen_byte hy (by omega) (k := j) (by rw [HT.out]; exact ⟨hlt, Hj.out⟩)
        have hke : k = 8 * (ys.length - 1) + j := isLen_unique HK.out hfin
        have Hke := hide hke
        clear hfin hlt hke
        go_wp2
        go_ret
        refine ⟨ret_int ?_, hb1⟩
        have := Hke.out
        omega

set_option maxHeartbeats 1000000 in
theorem rcmp_any {w : World} {va vb : Value} {n m : Int} {ka kb : Nat} (ha : Arg w va n ka) (hb : Arg w vb m kb) (hka : ka ≤ 1099511627776) (hkb : kb ≤ 1099511627776) :
    Calls Tryz.prog 98 #[va, vb] w fun e w' => e = .returned (.int .i64 (sgn n m)) ∧ Below w.heap.size w w' := by
  go_enter Tryz.func98, Tryz.ntmps98
  go_wp2_with fail
  refine (bytes_any ha hka).mono ?_
  rintro e w1 ⟨v1, rfl, ⟨xs, ⟨ao, ca, rfl, hxl, hxm, hxc⟩, hx, rfl, hxk⟩, hb1⟩
  go_wp2_with fail
  refine (bytes_any (hb.below hb1) hkb).mono ?_
  rintro e w2 ⟨v2, rfl, ⟨ys, ⟨bo, cb, rfl, hyl, hym, hyc⟩, hy, rfl, hyk⟩, hb2⟩
  replace hxc := hxc.below hb2
  have hbb := below_trans hb1 hb2
  clear ha hb hb1 hb2
  by_cases hl : xs.length = ys.length
  · have hl1 : ((xs.length : Int) != (ys.length : Int)) = false := by simp [hl]
    have Hl := hide hl
    clear hl
    go_wp2
    go_loopw [7] (fun si wr => ∃ j : Nat, j ≤ xs.length ∧ si = .int .i64 ((j : Int) - 1) ∧ (∀ i, j ≤ i → i < xs.length → Nt.lb xs i = Nt.lb ys i) ∧ Below w2.heap.size w2 wr) (fun si _ => (intOf si + 1).toNat)
    case atStart => exact ⟨xs.length, Nat.le_refl _, rfl, fun i h1 h2 => by omega, Below.refl _ _⟩
    case round =>
      obtain ⟨j, hj, rfl, hsame, hbr⟩ := hrel
      have HS := hide hsame
      clear hsame
      by_cases hj0 : j = 0
      · subst hj0
        go_wp2
        go_ret
        refine ⟨?_, hbb.trans (hbr.mono hbb.size)⟩
        rw [sgn_eq]
        · rfl
        · unfold Nb.val
          rw [← Hl.out]
          exact Nb.vt_congr fun i hi => HS.out i (by omega) hi
      · obtain ⟨p, rfl⟩ : ∃ p, j = p + 1 := ⟨j - 1, by omega⟩
        have hpx : p < xs.length := by omega
        have hpy : p < ys.length := by have := Hl.out; omega
        obtain ⟨b1, o1, rfl, _, hc1⟩ := (hxc.below hbr) (by omega)
        obtain ⟨b2, o2, rfl, _, hc2⟩ := (hyc.below hbr) (by omega)
        have g1 := hc1 p hpx
        have g2 := hc2 p hpy
        clear hc1 hc2 hxc hyc
        rcases Int.lt_trichotomy (Nt.lb xs p) (Nt.lb ys p) with h | h | h
        · have hq' : (Nt.lb xs p != Nt.lb ys p) = true := by simp; omega
          have hs := hide (sgn_lt (by unfold Nb.val; rw [← Hl.out]; exact Nb.vt_lt_at hx.1 hy.1 (p := p) hpx (fun i a b => HS.out i (by omega) b) h : Nb.val xs < Nb.val ys))
          go_wp2
          go_region
          all_goals go_wp2
          all_goals go_region
          all_goals go_wp2
          all_goals go_ret
          all_goals
            refine ⟨?_, hbb.trans (Below.mono (by repeat (first | exact hbr | apply Below.drew)) hbb.size)⟩
            rw [hs.out]
            rfl
        · have hq' : (Nt.lb xs p != Nt.lb ys p) = false := by simp [h]
          have Hq := hide h
          clear h
          go_wp2
          go_region
          all_goals go_wp2
          all_goals go_roundw
          all_goals first
            | exact ⟨p, by omega, rfl, fun i h1 h2 => by
                by_cases e : i = p
                · subst e; exact Hq.out
                · exact HS.out i (by omega) h2, by repeat (first | exact hbr | apply Below.drew)⟩
            | simp [intOf]
        · have hq' : (Nt.lb xs p != Nt.lb ys p) = true := by simp; omega
          have h' : ¬ Nt.lb xs p < Nt.lb ys p := by omega
          have hs := hide (sgn_gt (by unfold Nb.val; rw [← Hl.out]; exact Nb.vt_lt_at hy.1 hx.1 (p := p) hpx (fun i a b => (HS.out i (by omega) b).symm) h : Nb.val ys < Nb.val xs))
          go_wp2
          go_region
          all_goals go_wp2
          all_goals go_region
          all_goals go_wp2
          all_goals go_ret
          all_goals
            refine ⟨?_, hbb.trans (Below.mono (by repeat (first | exact hbr | apply Below.drew)) hbb.size)⟩
            rw [hs.out]
            rfl
  · have hl1 : ((xs.length : Int) != (ys.length : Int)) = true := by simp; omega
    by_cases hlt : xs.length < ys.length
    · have hs := hide (sgn_lt (Nb.canon_lt hx.1 hy hlt))
      go_wp2
      go_ret
      refine ⟨?_, hbb⟩
      rw [hs.out]
      rfl
    · have hs := hide (sgn_gt (Nb.canon_lt hy.1 hx (by omega)))
      have hlt' : ¬ (xs.length : Int) < (ys.length : Int) := by omega
      go_wp2
      go_ret
      refine ⟨?_, hbb⟩
      rw [hs.out]
      rfl

end Go.Proofs.YtigehipclkoecaaGreatDoor

namespace Go.Proofs.YtigehipclkoecaaGreatDoor
open Go.RowKit

/-- one round of a sum, bytes -/
theorem badd_step {xs ys zs : List Int} {c : Int} (h : Nb.val zs + c * Nb.pw zs.length = Nb.vt xs zs.length + Nb.vt ys zs.length) :
    Nb.val (zs ++ [(Nt.lb xs zs.length + Nt.lb ys zs.length + c) % 256]) + (Nt.lb xs zs.length + Nt.lb ys zs.length + c) / 256 * Nb.pw (zs.length + 1) = Nb.vt xs (zs.length + 1) + Nb.vt ys (zs.length + 1) := by
  rw [Nb.val_snoc, Nb.pw_succ, byte_step, Nb.vt_succ, Nb.vt_succ, Int.add_mul, Int.add_mul]
  omega

/-- one round of a difference, bytes -/
theorem bsub_step {xs ys zs : List Int} {c D c' : Int} (hD : D - c' * 256 = Nt.lb xs zs.length - Nt.lb ys zs.length - c) (h : Nb.val zs - c * Nb.pw zs.length = Nb.vt xs zs.length - Nb.vt ys zs.length) :
    Nb.val (zs ++ [D]) - c' * Nb.pw (zs.length + 1) = Nb.vt xs (zs.length + 1) - Nb.vt ys (zs.length + 1) := by
  rw [Nb.val_snoc, Nb.pw_succ, Nb.vt_succ, Nb.vt_succ]
  have e2 : (D - c' * 256) * Nb.pw zs.length = (Nt.lb xs zs.length - Nt.lb ys zs.length - c) * Nb.pw zs.length := by rw [hD]
  rw [Int.sub_mul, Int.sub_mul, Int.sub_mul, Int.mul_assoc] at e2
  omega

theorem b_vt_set_add {zs : List Int} {i : Nat} (hi : i < zs.length) (h0 : Nt.lb zs i = 0) (q : Int) (n : Nat) (hn : i < n) : Nb.vt (zs.set i q) n = Nb.vt zs n + q * Nb.pw i := by
  induction n with
  | zero => omega
  | succ n ih =>
    rw [Nb.vt_succ, Nb.vt_succ]
    by_cases e : i = n
    · subst e; rw [Nb.vt_set (Nat.le_refl _), Nt.lb_set_eq hi, h0]; simp
    · rw [Nt.lb_set_ne e, ih (by omega)]; omega
theorem b_val_set_add {zs : List Int} {i : Nat} (hi : i < zs.length) (h0 : Nt.lb zs i = 0) (q : Int) : Nb.val (zs.set i q) = Nb.val zs + q * Nb.pw i := by
  unfold Nb.val
  rw [List.length_set]
  exact b_vt_set_add hi h0 q _ hi

theorem bsmall_step {xs zs : List Int} {m : Nat} {r d V : Int} (hm : m < zs.length) (h0 : Nt.lb zs m = 0) (h : V = Nb.vt xs (m + 1) + Nb.val zs * d + r * Nb.pw (m + 1)) :
    V = Nb.vt xs m + Nb.val (zs.set m ((r * 256 + Nt.lb xs m) / d)) * d + ((r * 256 + Nt.lb xs m) % d) * Nb.pw m := by
  rw [h, b_val_set_add hm h0, Nb.vt_succ, Nb.pw_succ]
  have e : (r * 256 + Nt.lb xs m) % d + d * ((r * 256 + Nt.lb xs m) / d) = r * 256 + Nt.lb xs m := Int.emod_add_mul_ediv _ _
  generalize (r * 256 + Nt.lb xs m) % d = s at *
  generalize (r * 256 + Nt.lb xs m) / d = q at *
  have e2 : (s + d * q) * Nb.pw m = (r * 256 + Nt.lb xs m) * Nb.pw m := by rw [e]
  rw [Int.add_mul, Int.add_mul] at e2
  rw [Int.add_mul, ← Int.mul_assoc r]
  have e3 : q * Nb.pw m * d = d * q * Nb.pw m := by rw [Int.mul_comm, ← Int.mul_assoc]
  rw [e3]
  omega

end Go.Proofs.YtigehipclkoecaaGreatDoor

namespace Go.Proofs.YtigehipclkoecaaGreatDoor
open Go.RowKit

theorem b_val_set {zs : List Int} {i : Nat} (hi : i < zs.length) (q : Int) : Nb.val (zs.set i q) = Nb.val zs + (q - Nt.lb zs i) * Nb.pw i := by
  have : ∀ n, i < n → Nb.vt (zs.set i q) n = Nb.vt zs n + (q - Nt.lb zs i) * Nb.pw i := by
    intro n
    induction n with
    | zero => intro h; omega
    | succ n ih =>
      intro h
      rw [Nb.vt_succ, Nb.vt_succ]
      by_cases e : i = n
      · subst e; rw [Nb.vt_set (Nat.le_refl _), Nt.lb_set_eq hi, Int.sub_mul]; omega
      · rw [Nt.lb_set_ne e, ih (by omega)]; omega
  unfold Nb.val
  rw [List.length_set]
  exact this _ hi

/-- a byte laid, the rest carried on -/
theorem lay_step {zs : List Int} {p : Nat} {c d : Int} (hp : p < zs.length) :
    Nb.val (zs.set p ((Nt.lb zs p + d + c) % 256)) + (Nt.lb zs p + d + c) / 256 * Nb.pw (p + 1) = Nb.val zs + c * Nb.pw p + d * Nb.pw p := by
  rw [b_val_set hp, Nb.pw_succ]
  have e := byte_step (V := Nb.val zs) (x := Nt.lb zs p + d + c) (P := Nb.pw p)
  rw [Int.sub_mul]
  rw [Int.add_mul, Int.add_mul] at e
  omega
theorem mul_lt {a b P Q : Int} (ha : 0 ≤ a ∧ a < P) (hb : 0 ≤ b ∧ b < Q) : a * b < P * Q := by
  have h1 : a * b ≤ a * Q := Int.mul_le_mul_of_nonneg_left (by omega) ha.1
  have h2 : (a + 1) * Q ≤ P * Q := Int.mul_le_mul_of_nonneg_right (by omega) (by omega)
  rw [Int.add_mul] at h2
  omega
theorem byte_prod {x y : Int} (hx : 0 ≤ x ∧ x < 256) (hy : 0 ≤ y ∧ y < 256) : 0 ≤ x * y ∧ x * y ≤ 65025 := by
  refine ⟨Int.mul_nonneg hx.1 hy.1, ?_⟩
  have h1 : x * y ≤ 255 * y := Int.mul_le_mul_of_nonneg_right (by omega) hy.1
  omega

theorem heap_drewN (w : World) (n : Nat) : (w.drewN n).heap = w.heap := by
  induction n with
  | zero => rfl
  | succ n ih => exact ih
theorem row_drewN {k : IntKind} {E : TypeId} {w : World} {n g : Nat} {zs : List Int} : Row k E (w.drewN n) g zs = Row k E w g zs := by
  unfold Row; rw [heap_drewN]
theorem below_drewN' {B : Nat} {a w : World} {n : Nat} (h : Below B a w) : Below B a (w.drewN n) := by
  induction n with
  | zero => exact h
  | succ n ih => exact ih.drew

set_option maxRecDepth 100000 in
set_option maxHeartbeats 4000000 in
theorem rmul_any {w : World} {va vb : Value} {n m : Int} {ka kb : Nat} (ha : Arg w va n ka) (hb : Arg w vb m kb) (hka : ka ≤ 549755813888) (hkb : kb ≤ 549755813888) :
    Calls Tryz.prog 28 #[va, vb] w fun e w' => ∃ v, e = .returned v ∧ Num w.heap.size w' v (n * m) (ka + kb + 1) ∧ Below w.heap.size w w' := by
  go_enter Tryz.func28, Tryz.ntmps28
  go_wp2_with fail
  refine (bytes_any ha (by omega)).mono ?_
  rintro e w1 ⟨v1, rfl, ⟨xs, ⟨ao, ca, rfl, hxl, hxm, hxc⟩, hx, rfl, hxk⟩, hb1⟩
  go_wp2_with fail
  refine (bytes_any (hb.below hb1) (by omega)).mono ?_
  rintro e w2 ⟨v2, rfl, ⟨ys, ⟨bo, cb, rfl, hyl, hym, hyc⟩, hy, rfl, hyk⟩, hb2⟩
  replace hxc := hxc.below hb2
  have hbb := below_trans hb1 hb2
  clear ha hb hb1 hb2
  go_wp2_with (at_make; refine wpList_make_row _ rfl _ _ 93 rfl 3 .i64 8 Tryz.underlying93 Tryz.infoI64 _ _ _ _ (xs.length + ys.length + 1) (xs.length + ys.length + 1) rfl rfl (by omega) (by omega) (Nat.le_refl _) (by omega) (by unfold maxLen; omega) ?_)
  intro w3 hr hbel hsz
  go_wp2
  go_loopw [8] (fun si wr => ∃ (i : Nat) (zs : List Int), i ≤ xs.length ∧ si = .int .i64 i ∧ zs.length = xs.length + ys.length + 1 ∧ Nb.Ok zs ∧ Nb.val zs = Nb.vt xs i * Nb.val ys ∧ Row .i64 3 wr w2.heap.size zs ∧ Below w2.heap.size w2 wr) (fun si _ => xs.length - (intOf si).toNat)
  case atStart => exact ⟨0, List.replicate (xs.length + ys.length + 1) 0, by omega, rfl, by simp, Nb.ok_replicate _, by
    have e : Nb.val (List.replicate (xs.length + ys.length + 1) 0) = 0 := by
      unfold Nb.val; rw [Nb.vt_cut (k := 0) (by omega) (fun i _ _ => Nt.lb_replicate _ _)]; rfl
    rw [e]; simp [Nb.vt], hr, hbel⟩
  case round =>
    obtain ⟨i, zs, hil, rfl, hzl, hzo, hzv, hrow, hbr⟩ := hrel
    have Hzl := hide hzl
    have Hzv := hide hzv
    clear hzl hzv hr hbel
    by_cases hlt : i < xs.length
    · obtain ⟨b1, o1, rfl, hb1, hc1⟩ := (hxc.below hbr) (by omega)
      have gx0 := hc1 i hlt
      obtain ⟨bx0, bx1⟩ := hx.1 i
      clear hc1
      have hlt' : (i : Int) < (xs.length : Int) := by omega
      go_wp2
      go_loopw [9, 10] (fun sc sk wq => ∃ (k : Nat) (c : Int) (us : List Int), k ≤ ys.length ∧ sk = .int .i64 k ∧ sc = .int .i64 c ∧ 0 ≤ c ∧ c < 256 ∧ us.length = xs.length + ys.length + 1 ∧ Nb.Ok us ∧ Nb.val us + c * Nb.pw (i + k) = Nb.vt xs i * Nb.val ys + Nt.lb xs i * Nb.vt ys k * Nb.pw i ∧
          Row .i64 3 wq w2.heap.size us ∧ Below w2.heap.size w2 wq) (fun _ sk _ => ys.length - (intOf sk).toNat)
      case atStart => exact ⟨0, 0, zs, by omega, rfl, rfl, by omega, by omega, Hzl.out, hzo, by rw [Hzv.out]; simp [Nb.vt], hrow, hbr⟩
      case round =>
        obtain ⟨k, c, us, hkl, rfl, rfl, hc0, hc1, hul, huo, huv, hrowu, hbu⟩ := hrel
        have Hul := hide hul
        have Huv := hide huv
        clear hul huv hrow gx0
        by_cases hk : k < ys.length
        · obtain ⟨b2, o2, rfl, hb2, hc2⟩ := (hyc.below hbu) (by omega)
          have gy := hc2 k hk
          obtain ⟨b1', o1', he, _, hc1'⟩ := (hxc.below hbu) (by omega)
          have gx := hc1' i hlt
          simp only [Option.some.injEq, Addr.mk.injEq, and_true] at he
          obtain ⟨rfl, rfl⟩ := he
          have gz := hrowu.cell (i := i + k) (by have := Hul.out; omega)
          have hfz := hrowu.frozen (i + k)
          obtain ⟨by0, by1⟩ := hy.1 k
          obtain ⟨bz0, bz1⟩ := huo (i + k)
          obtain ⟨p0, p1⟩ := byte_prod ⟨bx0, bx1⟩ ⟨by0, by1⟩
          have hk' : (k : Int) < (ys.length : Int) := by omega
          have hik : (i : Int) + (k : Int) < (xs.length : Int) + (ys.length : Int) + 1 := by omega
          have Hst := hide (lay_step (zs := us) (p := i + k) (c := c) (d := Nt.lb xs i * Nt.lb ys k) (by have := Hul.out; omega))
          clear hc1' hc2
          go_wp2
          go_quiet (fail)
          go_wp2
          go_roundw
          case rel => exact ⟨k + 1, (Nt.lb us (i + k) + Nt.lb xs i * Nt.lb ys k + c) / 256, us.set (i + k) ((Nt.lb us (i + k) + Nt.lb xs i * Nt.lb ys k + c) % 256), by omega, by go_num, rfl, by omega, by omega, by rw [List.length_set, Hul.out], Nb.ok_set huo (by omega), by
            rw [← Nat.add_assoc, Hst.out, Huv.out, Nb.vt_succ, Nb.pw_add, Int.mul_add, Int.add_mul]
            have e : Nt.lb xs i * Nt.lb ys k * (Nb.pw i * Nb.pw k) = Nt.lb xs i * (Nt.lb ys k * Nb.pw k) * Nb.pw i := by
              rw [Int.mul_comm (Nb.pw i), Int.mul_assoc, Int.mul_assoc, Int.mul_assoc]
            omega, Row.set (by rw [row_drewN]; exact hrowu) _ _, Below.setCell (p := ⟨w2.heap.size, i + k, none⟩) (below_drewN' hbu) (Nat.le_refl _) _⟩
          case measure => simp [intOf]; omega
        · have hke : k = ys.length := by omega
          subst hke
          have hk' : ¬ (ys.length : Int) < (ys.length : Int) := by omega
          obtain ⟨T, hT⟩ : ∃ T, T = Nb.vt xs (i + 1) * Nb.val ys := ⟨_, rfl⟩
          have hT2 : Nb.val us + c * Nb.pw (i + ys.length) = T := by
            rw [hT, Huv.out, Nb.vt_succ, Int.add_mul, Int.mul_right_comm]; rfl
          have hTb : T < Nb.pw (xs.length + ys.length) := by
            rw [hT, Nb.pw_add]
            have h1 := Nb.vt_bounds hx.1 (i + 1)
            have h2 := Nb.pw_mono (m := i + 1) (n := xs.length) (by omega)
            exact mul_lt ⟨h1.1, by omega⟩ ⟨Nb.val_nonneg hy.1, Nb.val_lt hy.1⟩
          have HT := hide hT
          have HT2 := hide hT2
          have HTb := hide hTb
          clear hT hT2 hTb Huv
          go_wp2
          go_loopw [9, 12] (fun sc sk wq => ∃ (k : Nat) (c : Int) (us : List Int), k ≤ xs.length + ys.length ∧ sk = .int .i64 k ∧ sc = .int .i64 c ∧ 0 ≤ c ∧ c < 256 ∧ us.length = xs.length + ys.length + 1 ∧ Nb.Ok us ∧ Nb.val us + c * Nb.pw k = T ∧
              Row .i64 3 wq w2.heap.size us ∧ Below w2.heap.size w2 wq) (fun _ sk _ => xs.length + ys.length - (intOf sk).toNat)
          case atStart => exact ⟨i + ys.length, c, us, by omega, by go_num, rfl, hc0, hc1, Hul.out, huo, HT2.out, hrowu, hbu⟩
          case round =>
            clear hrowu hc0 hc1 HT2 hbu
            obtain ⟨k, c, us, hkl, rfl, rfl, hc0, hc1, hul, huo, huv, hrowu, hbu⟩ := hrel
            have Hul := hide hul
            have Huv := hide huv
            clear hul huv
            by_cases hp : 0 < c
            · have hkk : k < xs.length + ys.length := by
                by_cases h : k < xs.length + ys.length
                · exact h
                · have h1 := Nb.pw_mono (m := xs.length + ys.length) (n := k) (by omega)
                  have h2 := Nb.val_nonneg huo
                  have h3 : 1 * Nb.pw k ≤ c * Nb.pw k := Int.mul_le_mul_of_nonneg_right (by omega) (by have := Nb.pw_pos k; omega)
                  have h4 := Huv.out
                  have h5 := HTb.out
                  omega
              have gz := hrowu.cell (i := k) (by have := Hul.out; omega)
              have hfz := hrowu.frozen k
              obtain ⟨bz0, bz1⟩ := huo k
              have Hst := hide (lay_step (zs := us) (p := k) (c := c) (d := 0) (by have := Hul.out; omega))
              go_wp2
              go_roundw
              case rel => exact ⟨k + 1, (Nt.lb us k + c) / 256, us.set k ((Nt.lb us k + c) % 256), by omega, by go_num, rfl, by omega, by omega, by rw [List.length_set, Hul.out], Nb.ok_set huo (by omega), by
                have h := Hst.out
                rw [Int.add_zero, Int.zero_mul, Int.add_zero] at h
                rw [h]; exact Huv.out, hrowu.set _ _, hbu.setCell (p := ⟨w2.heap.size, k, none⟩) (Nat.le_refl _) _⟩
              case measure => simp [intOf]; omega
            · have hc00 : c = 0 := by omega
              subst hc00
              go_wp2
              go_roundw
              case rel => exact ⟨i + 1, us, by omega, by go_num, Hul.out, huo, by
                have h := Huv.out
                rw [Int.zero_mul, Int.add_zero] at h
                rw [h]; exact HT.out, hrowu, hbu⟩
              case measure => simp [intOf]; omega
    · have hke : i = xs.length := by omega
      subst hke
      have hk' : ¬ (xs.length : Int) < (xs.length : Int) := by omega
      have hz2 : zs.length = xs.length + ys.length + 1 := Hzl.out
      have hfin : Nb.val zs = Nb.val xs * Nb.val ys := Hzv.out
      have hrd : Reads .i64 wr (.slice (some ⟨w2.heap.size, 0, none⟩) (xs.length + ys.length + 1) (xs.length + ys.length + 1)) zs := ⟨_, xs.length + ys.length + 1, by rw [hz2], by omega, by unfold maxLen; omega, fun _ => ⟨w2.heap.size, 0, rfl, hrow.lt, fun i hi => by rw [Nat.zero_add]; exact hrow.cell hi⟩⟩
      have hla := limbs_any (ka := xs.length + ys.length + 1) ⟨zs, hrd, hzo, rfl, by omega⟩ (by omega)
      rw [hfin] at hla
      have Hla := hide hla
      clear hfin hrd hla hz2
      go_wp2_with fail
      refine Calls.mono Hla.out ?_
      rintro e w5 ⟨v, rfl, hv, hb5⟩
      go_wp2
      go_ret
      exact ⟨v, rfl, (num_since hv (by have := hbb.size; have := hbr.size; omega)).mono (by omega), below_trans hbb (hbr.trans (hb5.mono hbr.size))⟩

end Go.Proofs.YtigehipclkoecaaGreatDoor

namespace Go.Proofs.YtigehipclkoecaaGreatDoor
open Go.RowKit

theorem power_0 (w : World) : Calls Tryz.prog 128 #[.int .i64 0] w fun e w' => e = .returned (.int .i64 1) ∧ w' = w := by
  have hi : ∀ w, (Instr.index 186 (.agg #[.int .i64 1, .int .i64 2, .int .i64 4, .int .i64 8, .int .i64 16, .int .i64 32, .int .i64 64, .int .i64 128]) (.int .i64 0)).run Tryz.prog w = .ok (.int .i64 1) w := fun _ => by kernel_rfl
  go_enter Tryz.func128, Tryz.ntmps128
  go_wp2
  go_ret
  exact ⟨rfl, rfl⟩
theorem power_1 (w : World) : Calls Tryz.prog 128 #[.int .i64 1] w fun e w' => e = .returned (.int .i64 2) ∧ w' = w := by
  have hi : ∀ w, (Instr.index 186 (.agg #[.int .i64 1, .int .i64 2, .int .i64 4, .int .i64 8, .int .i64 16, .int .i64 32, .int .i64 64, .int .i64 128]) (.int .i64 1)).run Tryz.prog w = .ok (.int .i64 2) w := fun _ => by kernel_rfl
  go_enter Tryz.func128, Tryz.ntmps128
  go_wp2
  go_ret
  exact ⟨rfl, rfl⟩
theorem power_2 (w : World) : Calls Tryz.prog 128 #[.int .i64 2] w fun e w' => e = .returned (.int .i64 4) ∧ w' = w := by
  have hi : ∀ w, (Instr.index 186 (.agg #[.int .i64 1, .int .i64 2, .int .i64 4, .int .i64 8, .int .i64 16, .int .i64 32, .int .i64 64, .int .i64 128]) (.int .i64 2)).run Tryz.prog w = .ok (.int .i64 4) w := fun _ => by kernel_rfl
  go_enter Tryz.func128, Tryz.ntmps128
  go_wp2
  go_ret
  exact ⟨rfl, rfl⟩
theorem power_3 (w : World) : Calls Tryz.prog 128 #[.int .i64 3] w fun e w' => e = .returned (.int .i64 8) ∧ w' = w := by
  have hi : ∀ w, (Instr.index 186 (.agg #[.int .i64 1, .int .i64 2, .int .i64 4, .int .i64 8, .int .i64 16, .int .i64 32, .int .i64 64, .int .i64 128]) (.int .i64 3)).run Tryz.prog w = .ok (.int .i64 8) w := fun _ => by kernel_rfl
  go_enter Tryz.func128, Tryz.ntmps128
  go_wp2
  go_ret
  exact ⟨rfl, rfl⟩
theorem power_4 (w : World) : Calls Tryz.prog 128 #[.int .i64 4] w fun e w' => e = .returned (.int .i64 16) ∧ w' = w := by
  have hi : ∀ w, (Instr.index 186 (.agg #[.int .i64 1, .int .i64 2, .int .i64 4, .int .i64 8, .int .i64 16, .int .i64 32, .int .i64 64, .int .i64 128]) (.int .i64 4)).run Tryz.prog w = .ok (.int .i64 16) w := fun _ => by kernel_rfl
  go_enter Tryz.func128, Tryz.ntmps128
  go_wp2
  go_ret
  exact ⟨rfl, rfl⟩
theorem power_5 (w : World) : Calls Tryz.prog 128 #[.int .i64 5] w fun e w' => e = .returned (.int .i64 32) ∧ w' = w := by
  have hi : ∀ w, (Instr.index 186 (.agg #[.int .i64 1, .int .i64 2, .int .i64 4, .int .i64 8, .int .i64 16, .int .i64 32, .int .i64 64, .int .i64 128]) (.int .i64 5)).run Tryz.prog w = .ok (.int .i64 32) w := fun _ => by kernel_rfl
  go_enter Tryz.func128, Tryz.ntmps128
  go_wp2
  go_ret
  exact ⟨rfl, rfl⟩
theorem power_6 (w : World) : Calls Tryz.prog 128 #[.int .i64 6] w fun e w' => e = .returned (.int .i64 64) ∧ w' = w := by
  have hi : ∀ w, (Instr.index 186 (.agg #[.int .i64 1, .int .i64 2, .int .i64 4, .int .i64 8, .int .i64 16, .int .i64 32, .int .i64 64, .int .i64 128]) (.int .i64 6)).run Tryz.prog w = .ok (.int .i64 64) w := fun _ => by kernel_rfl
  go_enter Tryz.func128, Tryz.ntmps128
  go_wp2
  go_ret
  exact ⟨rfl, rfl⟩
theorem power_7 (w : World) : Calls Tryz.prog 128 #[.int .i64 7] w fun e w' => e = .returned (.int .i64 128) ∧ w' = w := by
  have hi : ∀ w, (Instr.index 186 (.agg #[.int .i64 1, .int .i64 2, .int .i64 4, .int .i64 8, .int .i64 16, .int .i64 32, .int .i64 64, .int .i64 128]) (.int .i64 7)).run Tryz.prog w = .ok (.int .i64 128) w := fun _ => by kernel_rfl
  go_enter Tryz.func128, Tryz.ntmps128
  go_wp2
  go_ret
  exact ⟨rfl, rfl⟩
theorem power_any (s : Nat) (hs : s < 8) (w : World) : Calls Tryz.prog 128 #[.int .i64 s] w fun e w' => e = .returned (.int .i64 (p2 s)) ∧ w' = w := by
  match s, hs with
  | 0, _ => exact power_0 w
  | 1, _ => exact power_1 w
  | 2, _ => exact power_2 w
  | 3, _ => exact power_3 w
  | 4, _ => exact power_4 w
  | 5, _ => exact power_5 w
  | 6, _ => exact power_6 w
  | 7, _ => exact power_7 w

theorem b_lb_pad (W : Nat) (ys : List Int) (i : Nat) : Nt.lb (List.replicate W 0 ++ ys) (W + i) = Nt.lb ys i := lb_pad W ys i
theorem b_vt_pad (W : Nat) (ys : List Int) (m : Nat) : Nb.vt (List.replicate W 0 ++ ys) (W + m) = Nb.vt ys m * Nb.pw W := by
  induction m with
  | zero =>
    rw [Nat.add_zero, Nb.vt_cut (k := 0) (by omega) (fun i _ h => lb_pad_low W ys h)]; simp [Nb.vt]
  | succ m ih => rw [← Nat.add_assoc, Nb.vt_succ, ih, lb_pad, Nb.vt_succ, Nb.pw_add, Int.add_mul, Int.mul_comm (Nb.pw W), Int.mul_assoc]
theorem b_val_pad (W : Nat) (ys : List Int) : Nb.val (List.replicate W 0 ++ ys) = Nb.val ys * Nb.pw W := by
  unfold Nb.val
  rw [List.length_append, List.length_replicate]
  exact b_vt_pad W ys _
theorem b_ok_pad {ys : List Int} (W : Nat) (h : Nb.Ok ys) : Nb.Ok (List.replicate W 0 ++ ys) := by
  intro i
  by_cases h1 : i < W
  · rw [lb_pad_low W ys h1]; omega
  · obtain ⟨j, rfl⟩ : ∃ j, i = W + j := ⟨i - W, by omega⟩
    rw [lb_pad]; exact h j

set_option maxHeartbeats 1000000 in
theorem rshl_neg {w : World} {va : Value} {n : Int} (hn : n < 0) :
    Calls Tryz.prog 97 #[va, .int .i64 n] w fun e w' => e = .returned (.tuple #[.slice none 0 0, .bool false]) ∧ w' = w := by
  go_enter Tryz.func97, Tryz.ntmps97
  go_wp2
  go_ret2
  exact ⟨rfl, rfl⟩

set_option maxHeartbeats 1000000 in
theorem rshl_zero {w : World} {va : Value} {n : Int} {ka : Nat} (ha : Arg w va 0 ka) (hka : ka ≤ 1099511627776) (hn : 0 ≤ n) :
    Calls Tryz.prog 97 #[va, .int .i64 n] w fun e w' => e = .returned (.tuple #[.slice none 0 0, .bool true]) ∧ Below w.heap.size w w' := by
  have hn' : ¬ n < 0 := by omega
  go_enter Tryz.func97, Tryz.ntmps97
  go_wp2_with fail
  refine (bytes_any ha hka).mono ?_
  rintro e w1 ⟨v1, rfl, ⟨xs, ⟨ao, ca, rfl, hxl, hxm, hxc⟩, hx, hv, hxk⟩, hb1⟩
  have hxe := (Nb.canon_zero hx).1 hv
  subst hxe
  clear ha hv
  go_wp2
  go_ret2
  exact ⟨rfl, hb1⟩

theorem b_canon_pos {xs : List Int} (h : 0 < Nb.val xs) : 0 < xs.length := by
  rcases Nat.eq_zero_or_pos xs.length with h0 | h0
  · rw [List.eq_nil_of_length_eq_zero h0, Nb.val_nil] at h; omega
  · exact h0

set_option maxHeartbeats 1000000 in
theorem rshl_big {w : World} {va : Value} {n A : Int} {ka k : Nat} (ha : Arg w va A ka) (hka : ka ≤ 1099511627776) (hn : 0 ≤ n) (hn2 : n ≤ 9223372036854775807) (hA : 0 < A) (hk : IsLen A k) (hk2 : k ≤ 32 * ka) (hbig : 8388608 < n + k) :
    Calls Tryz.prog 97 #[va, .int .i64 n] w fun e w' => e = .returned (.tuple #[.slice none 0 0, .bool false]) ∧ Below w.heap.size w w' := by
  have hn' : ¬ n < 0 := by omega
  have Hk := hide hk
  clear hk
  go_enter Tryz.func97, Tryz.ntmps97
  go_wp2_with fail
  refine (bytes_any ha hka).mono ?_
  rintro e w1 ⟨v1, rfl, ⟨xs, ⟨ao, ca, rfl, hxl, hxm, hxc⟩, hx, rfl, hxk⟩, hb1⟩
  have hp := b_canon_pos hA
  have h0 : ((xs.length : Int) == 0) = false := by simp; intro e; subst e; simp at hp
  clear hA
  by_cases hg : 8388608 < n
  · go_wp2
    go_ret2
    exact ⟨rfl, hb1⟩
  · go_wp2_with fail
    refine (rlen_any (ha.below hb1) hka Hk.out).mono ?_
    rintro e w2 ⟨rfl, hb2⟩
    have hg2 : 8388608 < (k : Int) + n := by omega
    go_wp2
    go_ret2
    exact ⟨rfl, below_trans hb1 hb2⟩

theorem owns_drewN {w : World} {n : Nat} {B : Nat} {E : TypeId} {sz : Nat} {v : Value} {m : Nat} {xs : List Value} (h : w.ownsRow B E sz v m xs) : (w.drewN n).ownsRow B E sz v m xs := by
  induction n with
  | zero => exact h
  | succ n ih => exact ih.drew

set_option maxRecDepth 100000 in
set_option maxHeartbeats 4000000 in
theorem rshl_ok {w : World} {va : Value} {A : Int} {ka k N W s : Nat} (ha : Arg w va A ka) (hka : ka ≤ 1099511627776) (hA : 0 < A) (hk : IsLen A k) (hk2 : k ≤ 32 * ka) (hfit : N + k ≤ 8388608) (hN : N = 8 * W + s) (hs : s < 8) :
    Calls Tryz.prog 97 #[va, .int .i64 N] w fun e w' => ∃ v, e = .returned (.tuple #[v, .bool true]) ∧ Num w.heap.size w' v (A * p2 N) (W + ka + 1) ∧ Below w.heap.size w w' := by
  have hq : (N : Int) / 8 = (W : Int) := by omega
  have hr : (N : Int) % 8 = (s : Int) := by omega
  have HN := hide hN
  have Hk := hide hk
  clear hN hk
  have hNb : ¬ 8388608 < (N : Int) := by omega
  have hWb : W ≤ 1048576 := by omega
  obtain ⟨i0, hi, hz0, hz1, hz2⟩ := info_parts Tryz.infoI64
  go_enter Tryz.func97, Tryz.ntmps97
  go_wp2_with fail
  refine (bytes_any ha hka).mono ?_
  rintro e w1 ⟨v1, rfl, ⟨xs, ⟨ao, ca, rfl, hxl, hxm, hxc⟩, hx, rfl, hxk⟩, hb1⟩
  have hp := b_canon_pos hA
  have h0 : ((xs.length : Int) == 0) = false := by simp; intro e; subst e; simp at hp
  clear hA
  go_wp2_with fail
  refine (rlen_any (ha.below hb1) hka Hk.out).mono ?_
  rintro e w2 ⟨rfl, hb2⟩
  have hg2 : ¬ 8388608 < (k : Int) + (N : Int) := by omega
  replace hxc := hxc.below hb2
  have hbb := below_trans hb1 hb2
  clear ha hb1 hb2
  go_wp2_with (at_make; refine wpList_make_full _ rfl _ _ 93 rfl w2.heap.size 3 i0 (.int .i64 0) 1 Tryz.underlying93 hi hz0 hz1 _ _ _ _ W rfl rfl (by omega) (by omega) ?b2 ?b3 (Nat.le_refl _) ?_)
  case b2 => rw [hz2]; omega
  case b3 => unfold maxLen; omega
  intro w3 hown0 hgrow0
  have hbel0 : Below w2.heap.size w2 w3 := (Below.refl _ _).grown hgrow0 (Nat.le_refl _) (fun k h => by cases h)
  have hown1 : w3.ownsRow w2.heap.size 3 1 (.slice (some ⟨w2.heap.size, 0, none⟩) W W) (W + 0) ((List.replicate W (0 : Int) ++ []).map (Value.int .i64)) := by
    have e : (madeCells #[Value.int IntKind.i64 0] W).toList = (List.replicate W (0 : Int) ++ []).map (Value.int .i64) := by
      rw [toList_madeCells_one]; simp
    rw [← e]; exact hown0
  clear hown0 hgrow0
  have hP0 := p2_pos s
  have hP1 : p2 s ≤ 128 := by have h := p2_mono (m := s) (n := 7) (by omega); rw [show p2 7 = 128 by decide] at h; exact h
  obtain ⟨P, hP⟩ : ∃ P, p2 s = P := ⟨_, rfl⟩
  have hpow := fun (W : World) => power_any s hs W
  rw [hP] at hP0 hP1 hpow
  have HP := hide hP
  have Hpow := hide hpow
  clear hP hpow
  go_wp2
  go_loopw [7, 8, 9] (fun out sc si wr => ∃ (c : Int) (us : List Int), us.length ≤ xs.length ∧ si = .int .i64 us.length ∧ sc = .int .i64 c ∧ 0 ≤ c ∧ c < P ∧ Nb.Ok us ∧ Nb.val us + c * Nb.pw us.length = Nb.vt xs us.length * P ∧
      wr.ownsRow w2.heap.size 3 1 out (W + us.length) ((List.replicate W (0 : Int) ++ us).map (Value.int .i64)) ∧ Below w2.heap.size w2 wr) (fun _ _ si _ => xs.length - (intOf si).toNat)
  case atStart => exact ⟨0, [], by simp, rfl, rfl, by omega, hP0, Nb.ok_nil, by simp [Nb.val, Nb.vt], hown1, hbel0⟩
  case round =>
    obtain ⟨c, us, hul, rfl, rfl, hc0, hc1, huo, heq, hown, hbr⟩ := hrel
    have Heq := hide heq
    clear heq hown1 hbel0
    obtain ⟨j, hj⟩ : ∃ j, us.length = j := ⟨_, rfl⟩
    rw [hj] at hown hul ⊢
    have Hj := hide hj
    clear hj
    have hsz := hbr.size
    by_cases h1 : j < xs.length
    · have hc1' : (j : Int) < (xs.length : Int) := by omega
      obtain ⟨b1, o1, rfl, _, hcc⟩ := (hxc.below hbr) (by omega)
      have g1 := hcc j h1
      obtain ⟨bx0, bx1⟩ := hx.1 j
      have p0 : 0 ≤ Nt.lb xs j * P := Int.mul_nonneg bx0 (by omega)
      have p1 : Nt.lb xs j * P ≤ 255 * P := Int.mul_le_mul_of_nonneg_right (by omega) (by omega)
      have hown2 : ∀ nq, (wr.drewN nq).ownsRow w2.heap.size 3 1 _ (W + j) ((List.replicate W (0 : Int) ++ us).map (Value.int .i64)) := fun nq => owns_drewN hown
      clear hcc hxc
      go_wp2
      go_quiet ((go_at_call 128; exact Calls.quiet_of_same (Hpow.out _)))
      go_wp2_with (at_builtin; refine wpList_append_cells _ rfl _ _ 93 rfl w2.heap.size 3 .i64 8 Tryz.underlying93 Tryz.infoI64 _ (W + j) (List.replicate W (0 : Int) ++ us) rfl ((hown2 _).alloc _) _ 1 [(Nt.lb xs j * P + c) % 256] rfl (cells_one _ _ _ _) (by unfold maxLen; simp; omega) (by simp; omega) (by simp; omega) ?_)
      intro v' w4 hown' hgrow
      have hb4 : Below w2.heap.size w2 w4 := below_own ((below_drewN' hbr).alloc (by rw [heap_drewN]; exact hsz) _) (by simp; omega) ((hown2 _).alloc _) hgrow
      have Hown' := hide hown'
      have hst := byte_step (V := Nb.val us) (x := Nt.lb xs j * P + c) (P := Nb.pw j)
      have Hst := hide hst
      clear hown' hgrow hst hown hown2
      go_wp2
      go_roundw
      case rel => exact ⟨(Nt.lb xs j * P + c) / 256, us ++ [(Nt.lb xs j * P + c) % 256], by rw [List.length_append, List.length_singleton, Hj.out]; omega, by rw [List.length_append, List.length_singleton, Hj.out]; go_num, rfl, by omega, by omega, Nb.ok_snoc huo (by omega), by
        have h1 := Heq.out
        rw [Hj.out] at h1
        rw [Nb.val_snoc, List.length_append, List.length_singleton, Hj.out, Nb.pw_succ, Hst.out, Nb.vt_succ, Int.add_mul, Int.add_mul, ← h1, Int.mul_right_comm]; omega, by simpa [Hj.out, Nat.add_assoc] using Hown'.out, hb4⟩
      case measure => simp [intOf]; omega
    · have hc1' : ¬ (j : Int) < (xs.length : Int) := by omega
      have Hje := hide (show j = xs.length by omega)
      go_wp2_with (at_builtin; refine wpList_append_cells _ rfl _ _ 93 rfl w2.heap.size 3 .i64 8 Tryz.underlying93 Tryz.infoI64 _ (W + j) (List.replicate W (0 : Int) ++ us) rfl (hown.alloc _) _ 1 [c] rfl (cells_one _ _ _ _) (by unfold maxLen; simp; omega) (by simp; omega) (by simp; omega) ?_)
      intro v' w4 hown' hgrow
      have hb4 : Below w2.heap.size w2 w4 := below_own (hbr.alloc hsz _) (by simp; omega) (hown.alloc _) hgrow
      have hfin : Nb.val (List.replicate W (0 : Int) ++ (us ++ [c])) = Nb.val xs * p2 N := by
        have h1 := Heq.out
        rw [Hj.out, Hje.out] at h1
        rw [b_val_pad, Nb.val_snoc, Hj.out, Hje.out, h1, HN.out, p2_add, p2_8, HP.out]
        unfold Nb.val
        rw [Int.mul_assoc, Int.mul_comm P]
      have hrd : Reads .i64 w4 v' (List.replicate W (0 : Int) ++ (us ++ [c])) := reads_of_owns (n := W + j + 1) (by simpa using hown')
      have hla := limbs_any (ka := W + j + 1) ⟨_, hrd, b_ok_pad W (Nb.ok_snoc huo (by omega)), rfl, by simp [Hj.out]; omega⟩ (by omega)
      rw [hfin] at hla
      have Hla := hide hla
      clear hown' hgrow hown hfin hrd hla
      go_wp2_with fail
      refine Calls.mono Hla.out ?_
      rintro e w5 ⟨v, rfl, hv, hb5⟩
      go_wp2
      go_ret2
      exact ⟨v, rfl, (num_since hv (by have := hbb.size; have := hb4.size; omega)).mono (by omega), below_trans hbb (hb4.trans (hb5.mono hb4.size))⟩

end Go.Proofs.YtigehipclkoecaaGreatDoor
