/- the law's examples -/
import Derived.Test.YtlpddfocihlbcaaGreatDoorBTwin
import Derived.Lib.SlBytesConst
namespace Go.Proofs.YtlpddfocihlbcaaGreatDoor
open Go.RowKit
set_option linter.unusedVariables false

theorem hex_yes {w : World} {s : ByteArray} {es xs : List Int} (hs : s = strOfNums es) (hb : uByt es) (hl : es.length ≤ 67108864) (h : HexOf es xs) :
    Calls Tryz.prog 5 #[.string s] w fun e w' => ∃ v, e = .returned (.tuple #[v, .bool true]) ∧ w'.ownsRow w.heap.size 5 1 v xs.length (xs.map (Value.int .u8)) ∧ Below w.heap.size w w' :=
  (fromhex_any hs hb hl).mono fun e w' ⟨h1, h2⟩ => by
    rcases h1 with ⟨v, ys, h3, h4, h5⟩ | ⟨h3, _⟩
    · rw [h3.uniq h] at h5; exact ⟨v, h4, h5, h2⟩
    · exact absurd h (h3 xs)
theorem hex_no {w : World} {s : ByteArray} {es : List Int} (hs : s = strOfNums es) (hb : uByt es) (hl : es.length ≤ 67108864) (h : ∀ xs, ¬ HexOf es xs) :
    Calls Tryz.prog 5 #[.string s] w fun e w' => e = .returned (.tuple #[.slice none 0 0, .bool false]) ∧ Below w.heap.size w w' :=
  (fromhex_any hs hb hl).mono fun e w' ⟨h1, h2⟩ => by
    rcases h1 with ⟨v, ys, h3, h4, h5⟩ | ⟨_, h3⟩
    · exact absurd h3 (h ys)
    · exact ⟨h3, h2⟩
theorem six_yes {w : World} {s : ByteArray} {es xs : List Int} (hs : s = strOfNums es) (hb : uByt es) (hl : es.length ≤ 67108864) (h : SixOf es xs) :
    Calls Tryz.prog 9 #[.string s] w fun e w' => ∃ v, e = .returned (.tuple #[v, .bool true]) ∧ w'.ownsRow w.heap.size 5 1 v xs.length (xs.map (Value.int .u8)) ∧ Below w.heap.size w w' :=
  (from64_any hs hb hl).mono fun e w' ⟨h1, h2⟩ => by
    rcases h1 with ⟨v, ys, h3, h4, h5⟩ | ⟨h3, _⟩
    · rw [h3.uniq h] at h5; exact ⟨v, h4, h5, h2⟩
    · exact absurd h (h3 xs)
theorem six_no {w : World} {s : ByteArray} {es : List Int} (hs : s = strOfNums es) (hb : uByt es) (hl : es.length ≤ 67108864) (h : ∀ xs, ¬ SixOf es xs) :
    Calls Tryz.prog 9 #[.string s] w fun e w' => e = .returned (.tuple #[.slice none 0 0, .bool false]) ∧ Below w.heap.size w w' :=
  (from64_any hs hb hl).mono fun e w' ⟨h1, h2⟩ => by
    rcases h1 with ⟨v, ys, h3, h4, h5⟩ | ⟨_, h3⟩
    · exact absurd h3 (h ys)
    · exact ⟨h3, h2⟩
def bE1 : List Int := [48, 48, 102, 102, 49, 48]
def bE2 : List Int := [48, 70]
def bE3 : List Int := [90, 109, 57, 118, 89, 103]
def bE4 : List Int := [90, 109, 57]
theorem bE1_b : uByt bE1 := by unfold uByt bE1; decide
theorem bE2_b : uByt bE2 := by unfold uByt bE2; decide
theorem bE3_b : uByt bE3 := by unfold uByt bE3; decide
theorem bE4_b : uByt bE4 := by unfold uByt bE4; decide
theorem bE1_h : HexOf bE1 [0, 255, 16] := ⟨by unfold uByt; decide, by decide +kernel⟩
theorem bE2_h (xs : List Int) : ¬ HexOf bE2 xs := hex_bad (c := 70) (by decide) (by decide)
theorem bE3_h : SixOf bE3 [102, 111, 111, 98] := ⟨by unfold uByt; decide, by decide +kernel⟩
theorem bE4_h (xs : List Int) : ¬ SixOf bE4 xs := by
  have := six3n (p := 25) (q := 38) (r := 61) (by decide) (by decide) (by decide) (by decide) (by decide) (by decide) (by decide) xs
  rwa [show [bLet 25, bLet 38, bLet 61] = bE4 by decide +kernel] at this
theorem conv_self (w : World) : (convert 39 39 (.slice (some ⟨w.heap.size, 0, none⟩) 32 32)).run Tryz.prog (w.alloc (.cells #[.int .u8 48, .int .u8 49, .int .u8 50, .int .u8 51, .int .u8 52, .int .u8 53, .int .u8 54, .int .u8 55, .int .u8 56, .int .u8 57, .int .u8 97, .int .u8 98, .int .u8 99, .int .u8 100, .int .u8 101, .int .u8 102, .int .u8 48, .int .u8 49, .int .u8 50, .int .u8 51, .int .u8 52, .int .u8 53, .int .u8 54, .int .u8 55, .int .u8 56, .int .u8 57, .int .u8 97, .int .u8 98, .int .u8 99, .int .u8 100, .int .u8 101, .int .u8 102] 5)) = .ok (.slice (some ⟨w.heap.size, 0, none⟩) 32 32) (w.alloc (.cells #[.int .u8 48, .int .u8 49, .int .u8 50, .int .u8 51, .int .u8 52, .int .u8 53, .int .u8 54, .int .u8 55, .int .u8 56, .int .u8 57, .int .u8 97, .int .u8 98, .int .u8 99, .int .u8 100, .int .u8 101, .int .u8 102, .int .u8 48, .int .u8 49, .int .u8 50, .int .u8 51, .int .u8 52, .int .u8 53, .int .u8 54, .int .u8 55, .int .u8 56, .int .u8 57, .int .u8 97, .int .u8 98, .int .u8 99, .int .u8 100, .int .u8 101, .int .u8 102] 5 (32, 33))) :=
  Lib.run_convert_bytes_const w 39 5 #[.int .u8 48, .int .u8 49, .int .u8 50, .int .u8 51, .int .u8 52, .int .u8 53, .int .u8 54, .int .u8 55, .int .u8 56, .int .u8 57, .int .u8 97, .int .u8 98, .int .u8 99, .int .u8 100, .int .u8 101, .int .u8 102, .int .u8 48, .int .u8 49, .int .u8 50, .int .u8 51, .int .u8 52, .int .u8 53, .int .u8 54, .int .u8 55, .int .u8 56, .int .u8 57, .int .u8 97, .int .u8 98, .int .u8 99, .int .u8 100, .int .u8 101, .int .u8 102] 32 32 Tryz.underlying39 Tryz.underlying5
theorem breads_mark {w : World} {zs : List Int} {fr : Nat × Nat} (h : zs.length ≤ 1000) : Reads .u8 (w.alloc (.cells (zs.map (Value.int .u8)).toArray 5 fr)) (.slice (some ⟨w.heap.size, 0, none⟩) zs.length zs.length) zs := by
  refine ⟨_, _, rfl, Nat.le_refl _, by unfold maxLen; omega, fun _ => ⟨w.heap.size, 0, rfl, by simp, fun i hi => ?_⟩⟩
  rw [Nat.zero_add, cell_of_row _ _ _ _ _ _ (heap_alloc_new w _)]
  simp [Nt.lb, hi]
theorem breads_new {w : World} {zs : List Int} (h : zs.length ≤ 1000) : Reads .u8 (w.alloc (.cells (zs.map (Value.int .u8)).toArray 5)) (.slice (some ⟨w.heap.size, 0, none⟩) zs.length zs.length) zs :=
  ⟨_, _, rfl, Nat.le_refl _, by unfold maxLen; omega, cells_new _ _ _ _⟩

set_option maxRecDepth 100000 in
set_option maxHeartbeats 8000000 in
theorem blives {w : World} : Calls Tryz.prog 11 #[] w fun e w' => e = .returned (.bool true) ∧ Below w.heap.size w w' := by
  have c1 := hide (fun w : World => hex_yes (w := w) (s := { data := #[48, 48, 102, 102, 49, 48] }) (es := bE1) rfl bE1_b (by decide) bE1_h)
  have c2 := hide (fun w : World => hex_no (w := w) (s := { data := #[48, 70] }) (es := bE2) rfl bE2_b (by decide) bE2_h)
  have c3 := hide (fun w : World => six_yes (w := w) (s := { data := #[90, 109, 57, 118, 89, 103] }) (es := bE3) rfl bE3_b (by decide) bE3_h)
  have c4 := hide (fun w : World => six_no (w := w) (s := { data := #[90, 109, 57] }) (es := bE4) rfl bE4_b (by decide) bE4_h)
  have c5 := hide (fun w : World => sum_any (breads_mark (w := w) (zs := bDigs ++ bDigs) (fr := (32, 33)) (by decide)))
  have c6 := hide (fun (w : World) (v : Value) (h : Reads .u8 w v [0, 255, 16]) => hex_any h (by unfold uByt; decide) (by decide))
  have c7 := hide (fun w : World => base64_any (breads_new (w := w) (zs := [251, 255, 191]) (by decide)) (by unfold uByt; decide) (by decide))
  rw [show strOfNums (bHex [0, 255, 16]) = ⟨#[48, 48, 102, 102, 49, 48]⟩ by kernel_rfl] at c6
  rw [show strOfNums (b64 [251, 255, 191]) = ⟨#[45, 95, 45, 95]⟩ by kernel_rfl] at c7
  rw [show decide ((bDigs ++ bDigs).length = 32) = true by decide] at c5
  have HL := hide (show (bSum (bDigs ++ bDigs)).length = 32 ∧ Nt.lb (bSum (bDigs ++ bDigs)) 31 = 102 by decide +kernel)
  obtain ⟨L, hL⟩ : ∃ L, bSum (bDigs ++ bDigs) = L := ⟨_, rfl⟩
  rw [hL] at c5 HL
  clear hL
  go_enter Tryz.func11, Tryz.ntmps11
  go_wp2_with fail
  refine (c1.out _).mono ?_
  rintro e w1 ⟨v1, rfl, ho1, hb1⟩
  obtain ⟨a1, k1, rfl, kx, ky, kc⟩ := breads_of_own rfl ho1
  have R1 : Hid (Reads .u8 w1 (.slice a1 3 k1) [0, 255, 16]) := ⟨a1, k1, rfl, kx, ky, kc⟩
  have B1 := hide hb1
  clear ho1 hb1 kx ky kc
  go_wp2_with fail
  refine (c2.out _).mono ?_
  rintro e w2 ⟨rfl, hb2⟩
  have R2 := hide (R1.out.below hb2)
  have B2 := hide (B1.out.trans (hb2.mono B1.out.size))
  clear R1 B1 hb2
  go_wp2_with fail
  refine (c3.out _).mono ?_
  rintro e w3 ⟨v3, rfl, ho3, hb3⟩
  have S3 := hide (breads_of_own rfl ho3)
  have R3 := hide (R2.out.below hb3)
  have B3 := hide (B2.out.trans (hb3.mono B2.out.size))
  clear R2 B2 hb3 ho3
  go_wp2_with fail
  refine (c4.out _).mono ?_
  rintro e w4 ⟨rfl, hb4⟩
  have S4 := hide (S3.out.below hb4)
  have R4 := hide (R3.out.below hb4)
  have B4 := hide (B3.out.trans (hb4.mono B3.out.size))
  clear R3 B3 hb4 S3
  have hcs := conv_self w4
  go_wp2_with fail
  clear hcs
  refine (c5.out w4).mono ?_
  rintro e w5 ⟨rfl, hb5⟩
  have K5 := hide ((al_b w4 _).trans (hb5.mono (al_b w4 _).size))
  have S5 := hide (S4.out.below K5.out)
  have R5 := hide (R4.out.below K5.out)
  have B5 := hide (B4.out.trans (K5.out.mono B4.out.size))
  clear R4 B4 hb5 S4 K5
  go_wp2_with (refine wpList_store_r rfl 56 _ _ rfl w5.heap.size (List.replicate 32 0) L rfl rfl 56 (heap_alloc_new w5 _) (by rw [HL.out.1]; rfl) (by rw [Tryz.info32, HL.out.1]) w5.heap.size w5 (al_b _ _) (Nat.le_refl _) ?_; intro w6 hR6 hb6)
  have g31 := hR6.cell (i := 31) (by rw [HL.out.1]; decide)
  rw [HL.out.2] at g31
  have S6 := hide (S5.out.below hb6)
  have R6 := hide (R5.out.below hb6)
  have B6 := hide (B5.out.trans (hb6.mono B5.out.size))
  have hlt := hide hR6.lt
  clear R5 B5 hb6 S5 hR6
  refine (c6.out _ _ R6.out).mono ?_
  rintro e w7 ⟨rfl, hb7⟩
  have hcv := reads_conv (S6.out.below hb7)
  have g7 : w7.cell? ⟨w5.heap.size, 31, none⟩ = some (.int .u8 102) := (hb7.cell (p := ⟨w5.heap.size, 31, none⟩) hlt.out).trans g31
  have B7 := hide (B6.out.trans (hb7.mono B6.out.size))
  clear S6 R6 B6 hb7 g31
  rw [show strOfNums [102, 111, 111, 98] = ⟨#[102, 111, 111, 98]⟩ by kernel_rfl] at hcv
  go_wp2_with fail
  refine (c7.out w7).mono ?_
  rintro e w8 ⟨rfl, hb8⟩
  go_wp2
  go_ret
  exact ⟨rfl, (B7.out.trans ((al_b w7 _).mono B7.out.size)).trans (hb8.mono (Nat.le_trans B7.out.size (al_b w7 _).size))⟩

end Go.Proofs.YtlpddfocihlbcaaGreatDoor
