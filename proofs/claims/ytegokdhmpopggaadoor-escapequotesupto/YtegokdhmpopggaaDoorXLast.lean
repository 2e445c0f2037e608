/- escape: lastUnit, units, letter -/
import Derived.Test.YtegokdhmpopggaaDoorXUnit
import Derived.Test.YtegokdhmpopggaaDoorUFrom
import Derived.Test.YtegokdhmpopggaaDoorUApp
import Derived.Laws.BitsAllLaws
import Derived.Lib.Index
import Derived.Lib.Bytealg
namespace Go.Proofs.YtegokdhmpopggaaDoor
open Go.RowKit
set_option linter.unusedVariables false

set_option maxHeartbeats 1000000 in
set_option maxRecDepth 100000 in
theorem xIb0 {w : World} {s : ByteArray} {c : Int} : Calls Tryd.prog 73 #[.string s, .int .u8 c] w fun e w' => e = .returned (.int .i64 (Lib.indexByte s.data.toList c.toNat.toUInt8)) ∧ w' = w := by
  go_enter Tryd.func73, Tryd.ntmps73
  go_wp2
  rw [run_callFunc_extern Tryd.func75 (by kernel_rfl) (by kernel_rfl) (by kernel_rfl) (e := Extern.BytealgIndexByte.indexByte) (by kernel_rfl), Lib.run_indexByteString]
  simp only [Result.andThen]
  rw [Oper.upon_value]
  go_wp2
  go_ret
  exact ⟨rfl, rfl⟩
theorem xIb {w : World} {s : ByteArray} {c r : Int} (h : Lib.indexByte s.data.toList c.toNat.toUInt8 = r) : Calls Tryd.prog 70 #[.string s, .int .u8 c] w fun e w' => e = .returned (.int .i64 r) ∧ w' = w := by
  have H := hide (xIb0 (w := w) (s := s) (c := c))
  rw [h] at H
  clear h
  go_enter Tryd.func70, Tryd.ntmps70
  go_wp2_with fail
  refine H.out.mono ?_
  rintro e w1 ⟨rfl, rfl⟩
  go_wp2
  go_ret
  exact ⟨rfl, rfl⟩
theorem hexB : ∀ c : Fin 256, xSp (c.val : Int) dSp = true → Lib.indexByte [48, 49, 50, 51, 52, 53, 54, 55, 56, 57, 97, 98, 99, 100, 101, 102] ((c.val ||| 32 : Nat) : Int).toNat.toUInt8 = xDig (c.val : Int) := by decide +kernel
theorem hexD {c : Int} (h0 : 0 ≤ c) (h1 : c < 256) (h : xSp c dSp = true) : Lib.indexByte [48, 49, 50, 51, 52, 53, 54, 55, 56, 57, 97, 98, 99, 100, 101, 102] (bits .or .u8 c 32).toNat.toUInt8 = xDig c := by
  have e : ((c.toNat : Nat) : Int) = c := by omega
  have := hexB ⟨c.toNat, by omega⟩ (by simpa [e] using h)
  simp only [e] at this
  rw [u8_or c 32 h0 h1 (by decide) (by decide)]
  exact this
theorem wraps_i64x (n : Int) (h₀ : 0 ≤ n) (h₁ : n < 2 ^ 63) : IntKind.i64.wrap n = n := by rw [IntKind.wrap_i64]; omega
theorem or_dig {x y : Int} (h0 : 0 ≤ x) (h1 : x < 65536) (y0 : 0 ≤ y) (y1 : y < 16) : bits .or .i64 (x * 16) y = x * 16 + y :=
  bits_join .i64 63 (by decide) wraps_i64x 4 (x * 16) y (by omega) (by omega) (by omega) y0 (by omega) (by omega)

set_option maxRecDepth 100000 in
set_option maxHeartbeats 4000000 in
theorem last_rk {B b k : Nat} {s : ByteArray} {ls es : List Int} {w0 w : World} (h : RK B b s ls (k + 4) es w0 w) (hd : ∀ i, i < 4 → xTk ls (k + i) dSp = true) :
    Calls Tryd.prog 64 #[.pointer (some ⟨b, 0, none⟩)] w fun e w' => e = .returned (.int .u16 (xNum ls k)) ∧ w' = w := by
  have hle := h.le
  have hlen := h.len
  have c0 := h.rd.c0
  have c1 := h.rd.c1
  have hsz : s.size = ls.length := by rw [h.str, strOfNums_size]
  have HX := hide (show ∀ i, i < 4 → ∃ hp : k + i < s.size, (((s[k + i]'hp).toNat : Nat) : Int) = Nt.lb ls (k + i) from fun i hi => by
    have hp : k + i < s.size := by omega
    refine ⟨hp, ?_⟩
    have hs := h.str
    subst hs
    exact utxt_at hp h.byt)
  have HV := hide (show ∀ i, i < 4 → 0 ≤ Nt.lb ls (k + i) ∧ Nt.lb ls (k + i) < 256 ∧ xSp (Nt.lb ls (k + i)) dSp = true from fun i hi => by
    have := h.byt _ (List.getElem_mem (xTk_lt (hd i hi)))
    refine ⟨?_, ?_, xTk_sp (hd i hi)⟩
    · simpa [Nt.lb, xTk_lt (hd i hi)] using this.1
    · simpa [Nt.lb, xTk_lt (hd i hi)] using this.2)
  have HF := hide hd
  clear hd h
  have hz : ls.length ≤ 140737488355328 := by omega
  obtain ⟨L, hL⟩ : ∃ L, s.size = L := ⟨_, rfl⟩
  have hkL : k + 4 ≤ L := by omega
  have hLm : L ≤ 140737488355328 := by omega
  clear hsz hlen hz hle
  obtain ⟨R, hR⟩ : ∃ R, xNum ls k = R := ⟨_, rfl⟩
  rw [hR]
  have HR := hide hR
  clear hR
  go_enter Tryd.func64, Tryd.ntmps64
  go_wp2
  go_loopg [3, 4] 4 (fun c u i wr => ∃ (m : Nat) (x : Int), m ≤ 4 ∧ u = .int .i64 x ∧ i = .int .i64 ((k : Int) + m) ∧ c = 4 - m ∧ 0 ≤ x ∧ (m = 0 ∧ x < 1 ∨ m = 1 ∧ x < 16 ∨ m = 2 ∧ x < 256 ∨ m = 3 ∧ x < 4096 ∨ m = 4 ∧ x < 65536) ∧ Hid (R = match m with | 0 => ((((x * 16 + xV ls k) * 16 + xV ls (k + 1)) * 16 + xV ls (k + 2)) * 16 + xV ls (k + 3)) | 1 => (((x * 16 + xV ls (k + 1)) * 16 + xV ls (k + 2)) * 16 + xV ls (k + 3)) | 2 => ((x * 16 + xV ls (k + 2)) * 16 + xV ls (k + 3)) | 3 => (x * 16 + xV ls (k + 3)) | _ => x) ∧ w = wr)
  case atStart => exact ⟨0, 0, by omega, rfl, by simp, rfl, by omega, .inl ⟨rfl, by omega⟩, hide (by rw [← HR.out]; unfold xNum; simp), rfl⟩
  case round =>
    obtain ⟨m, x, hm, rfl, rfl, hg, x0, xm, HJ, rfl⟩ := hrel
    by_cases hlt : m < 4
    · have p1 : (k : Int) + m < ((k + 4 : Nat) : Int) := by omega
      obtain ⟨hp, hx⟩ := HX.out m hlt
      obtain ⟨v0, v1, v2⟩ := HV.out m hlt
      have HH := hide (hexD v0 v1 v2)
      have hdg := xTk_dig (HF.out m hlt)
      have ed : xDig (Nt.lb ls (k + m)) = xV ls (k + m) := rfl
      rw [ed] at HH
      obtain ⟨d, hd⟩ : ∃ d, xV ls (k + m) = d := ⟨_, rfl⟩
      have HD := hide hd
      rw [hd] at HH hdg
      obtain ⟨z, hzz⟩ : ∃ z, Nt.lb ls (k + m) = z := ⟨_, rfl⟩
      rw [hzz] at hx HH
      obtain ⟨y, hy⟩ : ∃ y, bits .or .u8 z 32 = y := ⟨_, rfl⟩
      rw [hy] at HH
      clear ed hd hzz v0 v1 v2
      have o1 := or_dig (x := x) (y := d) x0 (by omega) hdg.2.1 hdg.2.2
      have hxm : x < 65536 := by omega
      have hdd := hdg.2
      clear hdg
      go_wp2_with (go_at_call 70; refine (xIb HH.out).mono ?_; rintro e w' ⟨rfl, rfl⟩)
      go_roundg (4 - (m + 1))
      case measure => omega
      case rel =>
        refine ⟨m + 1, x * 16 + d, by omega, rfl, ?_, rfl, by omega, by omega, hide ?_, rfl⟩
        · rw [show ((k : Int) + (m : Int) + 1) = (k : Int) + ((m + 1 : Nat) : Int) by omega]
        · rw [HJ.out]
          have hd := HD.out
          match m, hlt, hd with
          | 0, _, hd => rw [← hd]; rfl
          | 1, _, hd => rw [← hd]; rfl
          | 2, _, hd => rw [← hd]; rfl
          | 3, _, hd => rw [← hd]; rfl
    · have hm4 : m = 4 := by omega
      subst hm4
      have p1 : ¬ (k : Int) + ((4 : Nat) : Int) < ((k + 4 : Nat) : Int) := by omega
      have p2 : IntKind.u16.wrap x = x := by rw [IntKind.wrap_u16]; omega
      have e : R = x := HJ.out
      subst e
      go_wp2
      go_ret
      exact ⟨rfl, rfl⟩

end Go.Proofs.YtegokdhmpopggaaDoor
