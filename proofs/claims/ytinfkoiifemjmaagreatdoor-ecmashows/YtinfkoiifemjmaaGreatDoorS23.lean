/- EFmt, EPow -/
import Derived.Test.YtinfkoiifemjmaaGreatDoorS22
import Derived.Shelf.Small.Bits
import Derived.Shelf.Small.Strs
import Derived.Shelf.Strconv.Itoa0
import Derived.Shelf.Strconv.Itoa1
import Derived.Shelf.LaysM
import Derived.Shelf.Strconv.Itoa2
import Derived.Lib.AppendIntMem
namespace Go.Proofs.YtinfkoiifemjmaaGreatDoor
open Go.RowKit Go.Shelf
set_option linter.unusedVariables false

def flays283_ren : Go.Shelf.Ren := ⟨fun | 283 => 127 | n => n, fun | 3 => 3 | 9 => 9 | 4 => 4 | n => n, fun | n => n⟩
theorem flays283 : Go.Proofs.Lays.n283 Tryz.prog flays283_ren := {
  mixed := by kernel_rfl
  f283 := Tryz.func127.trans (congrArg some (by kernel_rfl))
  t3 := Tryz.underlying3
  a3 := Tryz.isAgg3
  z3 := Tryz.sizeOf3
  v3 := Tryz.zeroValue3
  t4 := Tryz.underlying4
  a4 := Tryz.isAgg4
  z4 := Tryz.sizeOf4
  v4 := Tryz.zeroValue4
  t9 := Tryz.underlying9
  a9 := Tryz.isAgg9
  z9 := Tryz.sizeOf9
  v9 := Tryz.zeroValue9 }
open Go.Lib in
theorem fsmall (i : Nat) (h : i < 100) (w : World) :
    Calls Tryz.prog 127 #[.int .i64 i] w fun e w' => e = .returned (.string ⟨(Lib.decDigits i).toArray⟩) ∧ w' = w := Any.internal_strconv_small flays283 i h w
def flaysM284_ren : Go.Shelf.Ren := ⟨fun | 284 => 128 | 129 => 161 | 317 => 160 | 318 => 162 | n => n, fun | 53 => 28 | 3 => 3 | 212 => 219 | 0 => 0 | 4 => 4 | 46 => 50 | 5 => 5 | 9 => 9 | n => n, fun | 17 => 14 | n => n⟩
theorem flaysM284 : Go.Proofs.LaysM.n284 Tryz.prog flaysM284_ren := {
  mixed := by kernel_rfl
  f129 := Tryz.func161.trans (congrArg some (by kernel_rfl))
  f284 := Tryz.func128.trans (congrArg some (by kernel_rfl))
  f317 := Tryz.func160.trans (congrArg some (by kernel_rfl))
  f318 := Tryz.func162.trans (congrArg some (by kernel_rfl))
  t0 := Tryz.underlying0
  a0 := Tryz.isAgg0
  z0 := Tryz.sizeOf0
  v0 := Tryz.zeroValue0
  t3 := Tryz.underlying3
  a3 := Tryz.isAgg3
  z3 := Tryz.sizeOf3
  v3 := Tryz.zeroValue3
  t4 := Tryz.underlying4
  a4 := Tryz.isAgg4
  z4 := Tryz.sizeOf4
  v4 := Tryz.zeroValue4
  t5 := Tryz.underlying5
  a5 := Tryz.isAgg5
  z5 := Tryz.sizeOf5
  v5 := Tryz.zeroValue5
  t9 := Tryz.underlying9
  a9 := Tryz.isAgg9
  z9 := Tryz.sizeOf9
  v9 := Tryz.zeroValue9
  t46 := Tryz.underlying50
  a46 := Tryz.isAgg50
  z46 := Tryz.sizeOf50
  v46 := Tryz.zeroValue50
  t53 := Tryz.underlying28
  a53 := Tryz.isAgg28
  z53 := Tryz.sizeOf28
  v53 := Tryz.zeroValue28
  t212 := Tryz.underlying219
  a212 := Tryz.isAgg219
  z212 := Tryz.sizeOf219
  v212 := Tryz.zeroValue219
  g17 := by kernel_rfl
  i0 := by kernel_rfl
  i3 := by kernel_rfl
  i4 := by kernel_rfl
  i5 := by kernel_rfl
  i9 := by kernel_rfl
  i46 := by kernel_rfl
  i53 := by kernel_rfl
  i212 := by kernel_rfl
  m17 := by kernel_rfl }
open Go.Lib in
theorem fnum (u : Nat) (h1 : 1 ≤ u) (h2 : u < 18446744073709551616) (w : World) (htab : Lib.TabIs Tryz.prog w "internal/strconv.uint64pow10" .u64 Lib.pow10Tab) :
    Calls Tryz.prog 128 #[.int .u64 u] w fun e w' => e = .returned (.int .i64 (Lib.nDigits u)) ∧ w' = w := Any.internal_strconv_numDigits flaysM284 u h1 h2 w htab
def flays285_ren : Go.Shelf.Ren := ⟨fun | 285 => 129 | n => n, fun | 37 => 35 | 53 => 28 | 3 => 3 | 4 => 4 | 51 => 96 | 9 => 9 | 5 => 5 | 0 => 0 | n => n, fun | n => n⟩
theorem flays285 : Go.Proofs.Lays.n285 Tryz.prog flays285_ren := {
  mixed := by kernel_rfl
  f285 := Tryz.func129.trans (congrArg some (by kernel_rfl))
  t0 := Tryz.underlying0
  a0 := Tryz.isAgg0
  z0 := Tryz.sizeOf0
  v0 := Tryz.zeroValue0
  t3 := Tryz.underlying3
  a3 := Tryz.isAgg3
  z3 := Tryz.sizeOf3
  v3 := Tryz.zeroValue3
  t4 := Tryz.underlying4
  a4 := Tryz.isAgg4
  z4 := Tryz.sizeOf4
  v4 := Tryz.zeroValue4
  t5 := Tryz.underlying5
  a5 := Tryz.isAgg5
  z5 := Tryz.sizeOf5
  v5 := Tryz.zeroValue5
  t9 := Tryz.underlying9
  a9 := Tryz.isAgg9
  z9 := Tryz.sizeOf9
  v9 := Tryz.zeroValue9
  t37 := Tryz.underlying35
  a37 := Tryz.isAgg35
  z37 := Tryz.sizeOf35
  v37 := Tryz.zeroValue35
  t51 := Tryz.underlying96
  a51 := Tryz.isAgg96
  z51 := Tryz.sizeOf96
  v51 := Tryz.zeroValue96
  t53 := Tryz.underlying28
  a53 := Tryz.isAgg28
  z53 := Tryz.sizeOf28
  v53 := Tryz.zeroValue28 }
open Go.RowKit Go.Sort Go.Lib in
theorem fbase (blk off cap : Nat) (u : Nat) (d : Array UInt8) (w : World) (hH : Holds (fun (b : UInt8) => Value.int .u8 (b.toNat : Int)) w blk off d) (hu : u < 10 ^ d.size) (hu64 : u < 18446744073709551616) (hsz : d.size < 4611686018427387904) :
    Calls Tryz.prog 129 #[.slice (some ⟨blk, off, none⟩) d.size cap, .int .u64 u] w fun e w' =>
      e = .returned (.tuple #[]) ∧ ∃ (n v' : Nat) (dk : Array UInt8), w' = (putRow (fun (b : UInt8) => Value.int .u8 (b.toNat : Int)) w blk off dk).drewN n ∧ FmtInv d.size u 0 v' dk := Any.internal_strconv_formatBase10 flays285 blk off cap u d w hH hu hu64 hsz

theorem below_drawn {B : Nat} {a b : World} (h : Below B a b) : ∀ k, Below B a (b.drewN k)
  | 0 => by rw [World.drewN_zero]; exact h
  | k + 1 => ⟨h.os, h.tape, h.output, h.size, h.block⟩
open Go.Sort in
theorem below_row (w : World) (o : Obj) (dk : Array UInt8) (k : Nat) : Below w.heap.size w ((putRow (fun (b : UInt8) => Value.int .u8 (b.toNat : Int)) (w.alloc o) w.heap.size 0 dk).drewN k) := by
  refine below_drawn ?_ k
  rw [alloc_eq_grow]
  obtain ⟨os', _, e⟩ := putRow_grow_new (fun (b : UInt8) => Value.int .u8 (b.toNat : Int)) w #[o] w.heap.size 0 dk (Nat.le_refl _)
  rw [e]
  refine ⟨rfl, rfl, rfl, by simp [grow], fun j hj => ?_⟩
  simp [grow, Array.getElem?_append_left hj]
set_option maxHeartbeats 4000000 in
set_option maxRecDepth 100000 in
open Go.Sort in
theorem fmt_any {w : World} {u : Nat} (hu64 : u < 18446744073709551616) (htab : Lib.TabIs Tryz.prog w "internal/strconv.uint64pow10" .u64 Lib.pow10Tab) :
    Calls Tryz.prog 90 #[.int .u64 u, .int .i64 10] w fun e w' => e = .returned (.string ⟨(Lib.decDigits u).toArray⟩) ∧ Below w.heap.size w w' := by
  by_cases hs : u < 100
  · have f1 : (u : Int) < 100 := by omega
    have hw : IntKind.i64.wrap (u : Int) = (u : Int) := by rw [IntKind.wrap_i64]; omega
    go_enter Tryz.func90, Tryz.ntmps90
    go_wp2_with fail
    refine (fsmall u hs _).mono ?_
    rintro e w1 ⟨rfl, rfl⟩
    go_wp2
    go_ret
    exact ⟨rfl, Below.refl _ _⟩
  · have f1 : ¬ (u : Int) < 100 := by omega
    have hu1 : 1 ≤ u := by omega
    have hnd20 : Lib.nDigits u ≤ 20 := by have := Lib.numDigits_eq u hu1 hu64; split at this <;> omega
    have hal : Tryz.prog.arrayLen 187 = 24 := by kernel_rfl
    have hsl : ∀ W, (Instr.sliceAt 187 (.pointer (some ⟨w.heap.size, 0, none⟩)) none (some (.int .i64 (Lib.nDigits u : Int))) none).run Tryz.prog W = .ok (.slice (some ⟨w.heap.size, 0, none⟩) (Lib.nDigits u) 24) W := fun W => by
      rw [run_sliceAt_array_h W 187 ⟨w.heap.size, 0, none⟩ (by kernel_rfl) .i64 (Lib.nDigits u : Int) (by omega) (by rw [hal]; omega)]
      go_simp
    have hH0 := Lib.holds_zero0 w 187 (Lib.nDigits u) (by omega)
    have hfmt := fbase w.heap.size 0 24 u (Array.replicate (Lib.nDigits u) 0) (w.alloc (.cells Lib.zeros24 187)) hH0 (by rw [Array.size_replicate]; exact Lib.lt_pow_nDigits u) hu64 (by rw [Array.size_replicate]; omega)
    rw [Array.size_replicate] at hfmt
    have HF := hide hfmt
    have HH0 := hide hH0
    have HT := hide (Lib.tabIs_alloc htab (.cells Lib.zeros24 187))
    clear hH0 hal hfmt
    go_enter Tryz.func90, Tryz.ntmps90
    go_wp2_with fail
    refine (fnum u hu1 hu64 _ HT.out).mono ?_
    rintro e w1 ⟨rfl, rfl⟩
    go_wp2_with fail
    refine HF.out.mono ?_
    rintro e w2 ⟨rfl, k, v', dk, rfl, hF⟩
    have hcv : (convert 35 9 (.slice (some ⟨w.heap.size, 0, none⟩) (Lib.nDigits u) 24)).run Tryz.prog ((putRow (fun (b : UInt8) => Value.int .u8 (b.toNat : Int)) (w.alloc (.cells Lib.zeros24 187)) w.heap.size 0 dk).drewN k) = .ok (.string ⟨(Lib.decDigits u).toArray⟩) ((putRow (fun (b : UInt8) => Value.int .u8 (b.toNat : Int)) (w.alloc (.cells Lib.zeros24 187)) w.heap.size 0 dk).drewN k) := by
      have h := run_convert_bytes_back (P := Tryz.prog) ((putRow (fun (b : UInt8) => Value.int .u8 (b.toNat : Int)) (w.alloc (.cells Lib.zeros24 187)) w.heap.size 0 dk).drewN k) 35 9 5 ⟨w.heap.size, 0, none⟩ 24 (Lib.decDigits u) Tryz.underlying35 Tryz.underlying5 Tryz.underlying9 (fun j hj => by
        rw [Lib.row_is_numeral hF j hj, Lib.add_plain, World.cell?_drewN]
        exact cell?_putRow (fun (b : UInt8) => Value.int .u8 (b.toNat : Int)) _ w.heap.size 0 _ dk HH0.out (by rw [hF.size, Array.size_replicate]) j (by rw [hF.size]; rw [Lib.decDigits_length] at hj; exact hj))
      rw [Lib.decDigits_length] at h
      exact h
    go_wp2
    go_ret
    exact ⟨rfl, below_row w _ dk k⟩

theorem fmt_top {w : World} {u : Nat} (hu64 : u < 18446744073709551616) (htab : Lib.TabIs Tryz.prog w "internal/strconv.uint64pow10" .u64 Lib.pow10Tab) :
    Calls Tryz.prog 56 #[.int .u64 u, .int .i64 10] w fun e w' => e = .returned (.string ⟨(Lib.decDigits u).toArray⟩) ∧ Below w.heap.size w w' := by
  have H := hide (fmt_any hu64 htab)
  clear htab
  go_enter Tryz.func56, Tryz.ntmps56
  go_wp2_with fail
  refine H.out.mono ?_
  rintro e w1 ⟨rfl, hb⟩
  go_wp2
  go_ret
  exact ⟨rfl, hb⟩

end Go.Proofs.YtinfkoiifemjmaaGreatDoor

namespace Go.Proofs.YtinfkoiifemjmaaGreatDoor
open Go.RowKit
set_option linter.unusedVariables false

/-- a number's decimal digits, as bytes -/
def decL (u : Nat) : List Int := (Lib.decDigits u).map fun b => (b.toNat : Int)
theorem decL_str (u : Nat) : (⟨(Lib.decDigits u).toArray⟩ : ByteArray) = strOfNums (decL u) := by
  unfold strOfNums decL
  rw [List.map_map]
  congr 2
  have : ((fun n : Int => UInt8.ofNat n.toNat) ∘ fun b : UInt8 => (b.toNat : Int)) = id := by
    funext b
    simp
  rw [this, List.map_id]
theorem decL_len {u : Nat} (h1 : u < 18446744073709551616) : (decL u).length ≤ 20 := by
  unfold decL
  rw [List.length_map, Lib.decDigits_length]
  by_cases h0 : 1 ≤ u
  · have := Lib.numDigits_eq u h0 h1
    split at this <;> omega
  · have : u = 0 := by omega
    subst this
    unfold Lib.nDigits
    simp
/-- what stands behind the digits: e, the sign, the size of n - 1 -/
def powT (n : Int) : List Int := if n < 1 then [101, 45] ++ decL (1 - n).toNat else [101, 43] ++ decL (n - 1).toNat
set_option maxHeartbeats 4000000 in
set_option maxRecDepth 100000 in
theorem power_ok {n : Int} (n0 : -9223372036854775808 ≤ n) (n1 : n ≤ 9223372036854775807) : PowOk n (powT n) := by
  intro B b fs w h hBw hf
  unfold powT
  by_cases hn : n < 1
  · rw [if_pos hn, ← List.append_assoc]
    obtain ⟨u, hu⟩ : ∃ u : Nat, 1 - n = (u : Int) := ⟨(1 - n).toNat, by omega⟩
    have hu64 : u < 18446744073709551616 := by omega
    have hw : IntKind.u64.wrap (1 - IntKind.u64.wrap n) = (u : Int) := by rw [IntKind.wrap_u64, IntKind.wrap_u64]; omega
    rw [show (1 - n).toNat = u by omega]
    have HL := hide (decL_len hu64)
    have HS := hide (decL_str u)
    clear hu
    go_enter Tryz.func34, Tryz.ntmps34
    go_wp2_with fail
    refine (h.str (fs := [101, 45]) rfl (by simp; omega) hBw).mono ?_
    rintro e w1 ⟨rfl, g1, b1⟩
    have s1 := b1.size
    go_wp2_with fail
    refine (fmt_top hu64 g1.2.2).mono ?_
    rintro e w2 ⟨rfl, b2⟩
    have g2 : Bd B b (fs ++ [101, 45]) w2 := g1.below b2 (by omega)
    have s2 := b2.size
    go_wp2_with fail
    refine (g2.str HS.out (by simp; have := HL.out; omega) (by omega)).mono ?_
    rintro e w3 ⟨rfl, g3, b3⟩
    have K := (b1.trans (b2.mono (by omega))).trans b3
    have G := hide g3
    clear b1 b2 b3 s1 s2 g1 g2 g3 h
    go_wp2
    go_end0
    exact ⟨rfl, G.out, K⟩
  · rw [if_neg hn, ← List.append_assoc]
    obtain ⟨u, hu⟩ : ∃ u : Nat, n - 1 = (u : Int) := ⟨(n - 1).toNat, by omega⟩
    have hu64 : u < 18446744073709551616 := by omega
    have hw : IntKind.u64.wrap (IntKind.u64.wrap n - 1) = (u : Int) := by rw [IntKind.wrap_u64, IntKind.wrap_u64]; omega
    rw [show (n - 1).toNat = u by omega]
    have HU := hide hu
    have HL := hide (decL_len hu64)
    have HS := hide (decL_str u)
    clear hu
    go_enter Tryz.func34, Tryz.ntmps34
    go_wp2_with fail
    refine (h.str (fs := [101, 43]) rfl (by simp; omega) hBw).mono ?_
    rintro e w1 ⟨rfl, g1, b1⟩
    have s1 := b1.size
    go_wp2_with fail
    (try rw [HU.out])
    refine (fmt_top hu64 g1.2.2).mono ?_
    rintro e w2 ⟨rfl, b2⟩
    have g2 : Bd B b (fs ++ [101, 43]) w2 := g1.below b2 (by omega)
    have s2 := b2.size
    go_wp2_with fail
    refine (g2.str HS.out (by simp; have := HL.out; omega) (by omega)).mono ?_
    rintro e w3 ⟨rfl, g3, b3⟩
    have K := (b1.trans (b2.mono (by omega))).trans b3
    have G := hide g3
    clear b1 b2 b3 s1 s2 g1 g2 g3 h
    go_wp2
    go_end0
    exact ⟨rfl, G.out, K⟩

/-- P8.1: a decimal number's text -/
def layoutT (ng : Bool) (es : List Int) (n : Int) : List Int := (if ng then [45] else []) ++ layT es n (powT n)
theorem layout_yes {w : World} {ng : Bool} {s : ByteArray} {es : List Int} {n : Int} (n0 : -9223372036854775808 ≤ n) (n1 : n ≤ 9223372036854775807) (hb : Byt es) (hs : s = strOfNums es) (hlm : es.length ≤ 70368744177664) (hbare : bareB es = true) (hT : Lib.TabIs Tryz.prog w "internal/strconv.uint64pow10" .u64 Lib.pow10Tab) (hG : 14 < w.heap.size) :
    Calls Tryz.prog 7 #[.agg #[.bool ng, .string s, .int .i64 n]] w fun e w' => e = .returned (.tuple #[.string (strOfNums (layoutT ng es n)), .bool true]) ∧ Below w.heap.size w w' := by
  have h1 : 0 < es.length := by
    cases es with
    | nil => simp [bareB] at hbare
    | cons a r => simp
  unfold layoutT
  cases ng with
  | true => exact layout_neg (power_ok n0 n1) hb hs (by omega) hlm h1 hbare hT hG
  | false =>
    have := layout_pos (w := w) (power_ok n0 n1) hb hs (by omega) hlm h1 hbare hT hG
    simpa using this

end Go.Proofs.YtinfkoiifemjmaaGreatDoor
