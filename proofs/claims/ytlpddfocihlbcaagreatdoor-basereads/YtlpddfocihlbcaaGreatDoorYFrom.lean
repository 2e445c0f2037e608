/- base.FromHex, and all of the answer's memory -/
import Derived.Test.YtlpddfocihlbcaaGreatDoorBLives
namespace Go.Proofs.YtlpddfocihlbcaaGreatDoor
open Go.RowKit
set_option linter.unusedVariables false

/-- what a reader of texts answers, and all of its memory -/
def YAns (T : List Int → Prop) (w w' : World) (e : Ending) : Prop :=
  ((∃ g c xs rest, T xs ∧ e = .returned (.tuple #[.slice (some ⟨g, 0, none⟩) xs.length c, .bool true]) ∧ w.heap.size ≤ g ∧ Row .u8 5 w' g (xs ++ rest) ∧ (xs ++ rest).length = c ∧ c ≤ maxLen) ∨ ((∀ xs, ¬ T xs) ∧ e = .returned (.tuple #[.slice none 0 0, .bool false]))) ∧ Below w.heap.size w w'

set_option maxRecDepth 100000 in
set_option maxHeartbeats 4000000 in
theorem yfromhex_any {w : World} {s : ByteArray} {es : List Int} (hs : s = strOfNums es) (hb : uByt es) (hl : es.length ≤ 67108864) :
    Calls Tryz.prog 5 #[.string s] w fun e w' => YAns (HexOf es) w w' e := by
  have hsz : s.size = es.length := by rw [hs, strOfNums_size]
  have HI := hide (show ∀ (i : Nat) (j : Int), j = i → i < es.length → ∀ W, _ from fun i j hj hi W => str_index hs hb (k := .i64) (i := j) (by omega) (by omega) W)
  have HBy := hide hb
  clear hs hb
  by_cases hodd : es.length % 2 = 1
  · have q1 : ((es.length : Int) % 2 != 0) = true := by simp; omega
    go_enter Tryz.func5, Tryz.ntmps5
    go_wp2
    go_ret2
    exact ⟨.inr ⟨fun xs => hex_odd hodd, rfl⟩, Below.refl _ _⟩
  · have q1 : ((es.length : Int) % 2 != 0) = false := by simp; omega
    obtain ⟨L, hL⟩ : ∃ L, es.length = 2 * L := ⟨es.length / 2, by omega⟩
    have q2 : (es.length : Int) / 2 = (L : Int) := by omega
    clear hodd
    go_enter Tryz.func5, Tryz.ntmps5
    go_wp2_with (at_make; refine wpList_make_row _ rfl _ _ 39 rfl 5 .u8 1 Tryz.underlying39 Tryz.infoY8 _ _ _ _ L L rfl rfl (by omega) (by omega) (by omega) (by omega) (by unfold maxLen; omega) ?_)
    intro w1 hrow hbel hsw
    go_wp2
    go_loopw [20] (fun si wr => ∃ (k : Nat) (zs : List Int), si = .int .i64 k ∧ k ≤ L ∧ zs.length = L ∧ Hid (es.take (2 * k) = bHex (zs.take k) ∧ uByt (zs.take k)) ∧ Hid (Row .u8 5 wr w.heap.size zs) ∧ Hid (Below w.heap.size w wr)) (fun si _ => L - (intOf si).toNat)
    case atStart => exact ⟨0, List.replicate L 0, rfl, by omega, by simp, hide ⟨rfl, fun x hx => by simp at hx⟩, hrow, hbel⟩
    case round =>
      obtain ⟨k, zs, rfl, hk, hzl, HT, HR, HB⟩ := hrel
      clear hrow hbel
      by_cases hlt : k < L
      · have hlt1 : (k : Int) < (L : Int) := by omega
        have i1 := HI.out (2 * k) (2 * (k : Int)) (by omega) (by omega)
        have i2 := HI.out (2 * k + 1) (2 * (k : Int) + 1) (by omega) (by omega)
        rw [show (2 * (k : Int)).toNat = 2 * k by omega] at i1
        rw [show (2 * (k : Int) + 1).toNat = 2 * k + 1 by omega] at i2
        have b1 := lb_byt HBy.out (show 2 * k < es.length by omega)
        have b2 := lb_byt HBy.out (show 2 * k + 1 < es.length by omega)
        have HM := hide (And.intro (lb_mem (show 2 * k < es.length by omega)) (lb_mem (show 2 * k + 1 < es.length by omega)))
        have n1 := hide (fun W => numberIn_any (w := W) bDigs_s bDigs_lt (by decide) b1.1 b1.2)
        have n2 := hide (fun W => numberIn_any (w := W) bDigs_s bDigs_lt (by decide) b2.1 b2.2)
        by_cases m1 : Nt.lb es (2 * k) ∈ bDigs
        · rw [decide_eq_true m1] at n1
          by_cases m2 : Nt.lb es (2 * k + 1) ∈ bDigs
          · rw [decide_eq_true m2] at n2
            have HS := hide (hexof_step (a := 0) (b := 0) HT.out.1 HT.out.2 (by omega) (by omega) m1 m2)
            obtain ⟨a0, a1, _⟩ := bNo_in m1
            obtain ⟨c0, c1, _⟩ := bNo_in m2
            replace a1 : bNo bDigs (Nt.lb es (2 * k)) < 16 := a1
            replace c1 : bNo bDigs (Nt.lb es (2 * k + 1)) < 16 := c1
            obtain ⟨x, hx⟩ : ∃ x, bNo bDigs (Nt.lb es (2 * k)) = x := ⟨_, rfl⟩
            obtain ⟨y, hy⟩ : ∃ y, bNo bDigs (Nt.lb es (2 * k + 1)) = y := ⟨_, rfl⟩
            rw [hx] at n1 a0 a1 HS
            rw [hy] at n2 c0 c1 HS
            have o1 := or8 4 (a := x * 16) (b := y) (P := 16) rfl (by omega) (by omega) (by omega) (by omega) (by omega) (by omega)
            clear m1 m2 hx hy HM
            go_wp2_with fail
            refine (n1.out _).mono ?_
            rintro e w2 ⟨rfl, k2⟩
            go_wp2_with fail
            refine (n2.out _).mono ?_
            rintro e w3 ⟨rfl, k3⟩
            have HR3 := hide ((HR.out.keeps k2).keeps k3)
            have HB3 := hide ((HB.out.trans (k2.mono HB.out.size)).trans (k3.mono (by have := HB.out.size; have := k2.size; omega)))
            have hc := HR3.out.cell (i := k) (by omega)
            have hfz := HR3.out.frozen k
            clear n1 n2 k2 k3
            go_wp2
            go_roundw
            case rel => exact ⟨k + 1, zs.set k (x * 16 + y), by go_num, by omega, by simp; omega, HS, hide (HR3.out.set _ _), hide (HB3.out.setCell (p := ⟨w.heap.size, k, none⟩) (Nat.le_refl _) _)⟩
            case measure => simp [intOf]; omega
          · rw [decide_eq_false m2] at n2
            have HN := hide (fun xs => hex_bad (es := xs) HM.out.2 m2)
            clear m1 m2 HM
            go_wp2_with fail
            refine (n1.out _).mono ?_
            rintro e w2 ⟨rfl, k2⟩
            go_wp2_with fail
            refine (n2.out _).mono ?_
            rintro e w3 ⟨rfl, k3⟩
            have HB3 := hide ((HB.out.trans (k2.mono HB.out.size)).trans (k3.mono (by have := HB.out.size; have := k2.size; omega)))
            clear n1 n2 k2 k3
            go_wp2
            go_ret2
            exact ⟨.inr ⟨HN.out, rfl⟩, HB3.out⟩
        · rw [decide_eq_false m1] at n1
          have HN := hide (fun xs => hex_bad (es := xs) HM.out.1 m1)
          clear m1 HM
          go_wp2_with fail
          refine (n1.out _).mono ?_
          rintro e w2 ⟨rfl, k2⟩
          go_wp2_with fail
          refine (n2.out _).mono ?_
          rintro e w3 ⟨rfl, k3⟩
          have HB3 := hide ((HB.out.trans (k2.mono HB.out.size)).trans (k3.mono (by have := HB.out.size; have := k2.size; omega)))
          clear n1 n2 k2 k3
          go_wp2
          go_ret2
          exact ⟨.inr ⟨HN.out, rfl⟩, HB3.out⟩
      · have hke : k = L := by omega
        have hlt1 : ¬ (k : Int) < (L : Int) := by omega
        go_wp2
        go_ret2
        have h1 := HT.out
        rw [hke, List.take_of_length_le (by omega), List.take_of_length_le (by omega)] at h1
        subst hzl
        exact ⟨.inl ⟨w.heap.size, zs.length, zs, [], ⟨h1.2, h1.1.symm⟩, rfl, Nat.le_refl _, by rw [List.append_nil]; exact HR.out, by simp, by unfold maxLen; omega⟩, HB.out⟩

end Go.Proofs.YtlpddfocihlbcaaGreatDoor
