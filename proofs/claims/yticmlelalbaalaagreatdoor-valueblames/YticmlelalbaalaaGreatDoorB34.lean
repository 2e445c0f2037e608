import Derived.Test.YticmlelalbaalaaGreatDoorB32
import Derived.Test.YticmlelalbaalaaGreatDoorB33
import Derived.Test.YticmlelalbaalaaGreatDoorB01
import Derived.Lib.ItoaLen
import Derived.Deep.CutRange
namespace Go.Proofs.YticmlelalbaalaaGreatDoor
open Go.RowKit Go.Shelf
set_option linter.unusedVariables false
set_option maxHeartbeats 2000000 in
set_option maxRecDepth 100000 in
theorem bstrW {B b : Nat} {bs : List Value} {s : ByteArray} {w : World} (h : Lib.IsBuilder 100 5 B b bs w) (hlen : bs.length + s.size ≤ 140737488355328) (hBw : B ≤ w.heap.size) :
    Calls Tryz.prog 69 #[.pointer (some ⟨b, 0, none⟩), .string s] w fun e w' => e = .returned (.tuple #[.int .i64 s.size, .nilIface]) ∧ (Lib.IsBuilder 100 5 B b (bs ++ Lib.strCells s) w' ∧ Below B w w') := by
  obtain ⟨i0, hi, hz0, hz1, hz2⟩ := info_parts binf
  go_enter Tryz.func69, Tryz.ntmps69
  go_wp2_with fail
  refine (bchk h).mono ?_
  rintro e w1 ⟨rfl, h1, hb1⟩
  obtain ⟨hB, v, hbk, hown, hne⟩ := h1
  have c0 : w1.cell? ⟨b, 0, none⟩ = some (.pointer (some ⟨b, 0, none⟩)) := by rw [Lib.cell_of_heap hbk]; rfl
  have c1 : w1.cell? ⟨b, 1, none⟩ = some v := by rw [Lib.cell_of_heap hbk]; rfl
  go_wp2_with (at_builtin; refine Lib.wpList_append_own_string _ rfl _ _ 98 9 rfl B 5 i0 Tryz.underlying98 Tryz.underlying9 hi hz0 hz1 hz2 _ _ _ rfl hown s rfl ?c3 ?c4 ?c5 ?_)
  case c3 => unfold maxLen; omega
  case c4 => omega
  case c5 => have := hb1.size; omega
  intro v' w2 hown' hgrow _
  have hlt : b < w1.heap.size := (Array.getElem?_eq_some_iff.1 hbk).1
  have hb2 : w2.heap[b]? = some (.cells #[.pointer (some ⟨b, 0, none⟩), v] 100 (0, 0)) := by
    rw [hgrow.block b hlt (fun e => hne e.symm)]
    exact hbk
  have d0 : w2.cell? ⟨b, 0, none⟩ = some (.pointer (some ⟨b, 0, none⟩)) := by rw [Lib.cell_of_heap hb2]; rfl
  have d1 : w2.cell? ⟨b, 1, none⟩ = some v := by rw [Lib.cell_of_heap hb2]; rfl
  have f1 : w2.frozen? ⟨b, 1, none⟩ = false := Lib.frozen_of_heap hb2 1
  obtain ⟨ao, n', cap, rfl⟩ : ∃ ao n' cap, v' = .slice ao n' cap := by
    rcases hown'.2 with ⟨hv, _⟩ | ⟨g, cap, cur, hv, _⟩
    · exact ⟨_, _, _, hv⟩
    · exact ⟨_, _, _, hv⟩
  go_wp2
  go_ret2
  refine ⟨rfl, Or.inr ?_, ?_⟩
  · exact Lib.BuilderAt.put (T := 100) (e := 5) hB hb2 (bs' := bs ++ Lib.strCells s) (by simpa [Lib.strCells_length] using hown') (by decide)
  · exact (hb1.grown hgrow (by have := hb1.size; omega) (fun k hk => (hown.lt k hk).1)).setCell (p := ⟨b, 1, none⟩) hB _
theorem Bd.strW {B b : Nat} {es fs : List Int} {w : World} (h : Bd B b es w) (hl : es.length + fs.length ≤ 140737488355328) (hBw : B ≤ w.heap.size) :
    Calls Tryz.prog 69 #[.pointer (some ⟨b, 0, none⟩), .string (strOfNums fs)] w fun e w' => e = .returned (.tuple #[.int .i64 (strOfNums fs).size, .nilIface]) ∧ Bd B b (es ++ fs) w' ∧ Below B w w' := by
  refine (bstrW h (by rw [Lib.byteCells_length, byE_len, strOfNums_size]; exact hl) hBw).mono ?_
  rintro e w' ⟨rfl, h1, hb⟩
  refine ⟨rfl, ?_, hb⟩
  unfold Bd
  rw [byE_app, Lib.byteCells_append]
  exact h1
def PtW (w : World) : Prop := 15 < w.heap.size ∧ Lib.TabIs Tryz.prog w "internal/strconv.uint64pow10" .u64 Lib.pow10Tab
theorem gPowW : Tryz.prog.globalNamed "internal/strconv.uint64pow10" = some 15 := by kernel_rfl
theorem PtW.below {w w' : World} (h : PtW w) (hb : Below w.heap.size w w') : PtW w' := by
  refine ⟨Nat.lt_of_lt_of_le h.1 hb.size, ?_⟩
  have h2 := h.2
  unfold Lib.TabIs at h2 ⊢
  simp only [World.var?, gPowW, Option.bind_some] at h2 ⊢
  rw [hb.block _ h.1]
  exact h2
def itoL (z : Int) : List Int := (Lib.itoa z).map fun c => (c.toNat : Int)
theorem itoL_str (z : Int) : (⟨(Lib.itoa z).toArray⟩ : ByteArray) = strOfNums (itoL z) := by
  show _ = (⟨((itoL z).map fun x => UInt8.ofNat x.toNat).toArray⟩ : ByteArray)
  congr 2
  unfold itoL
  rw [List.map_map]
  conv => lhs; rw [← List.map_id (Lib.itoa z)]
  apply List.map_congr_left
  intro c _
  simp
theorem itoL_len (z : Int) (h0 : 0 ≤ z) (h1 : z < 9223372036854775807) : (itoL z).length ≤ 20 := by
  unfold itoL Lib.itoa
  rw [List.length_map, if_neg (by omega), Lib.decDigits_length]
  exact Lib.nDigits_le20 _ (by omega)
open Go.Sort Go.Lib in
theorem below_grownW (w : World) (q : Nat) (os : Array Obj) : Go.RowKit.Below w.heap.size w (grow (w.drewN q) os) :=
  ⟨rfl, rfl, rfl, by first | (simp [grow]; done) | (simp [grow]; omega), fun i hi => by
    show ((w.drewN q).heap ++ os)[i]? = _
    rw [Array.getElem?_append_left (by show i < w.heap.size; omega)]
    rfl⟩
theorem itoa_any {w : World} (hP : PtW w) {z : Int} (h0 : 0 ≤ z) (h1 : z < 9223372036854775807) : Calls Tryz.prog 70 #[.int .i64 z] w fun e w' => e = .returned (.string (strOfNums (itoL z))) ∧ Below w.heap.size w w' := by
  refine (itoa_lay z (by omega) (by omega) w hP.2).mono ?_
  rintro e w' ⟨rfl, k, os, rfl⟩
  exact ⟨by rw [itoL_str], below_grownW _ _ _⟩
def pathT (p : List Int) : List Int := p.flatMap fun z => 47 :: itoL z
theorem pathT_app (p q : List Int) : pathT (p ++ q) = pathT p ++ pathT q := by simp [pathT]
theorem pathT_one (z : Int) : pathT [z] = 47 :: itoL z := by simp [pathT]
theorem pathT_len : ∀ (p : List Int), (∀ z ∈ p, 0 ≤ z ∧ z < 9223372036854775807) → (pathT p).length ≤ 21 * p.length
  | [], _ => by simp [pathT]
  | z :: p, h => by
    have h1 := itoL_len z (h z List.mem_cons_self).1 (h z List.mem_cons_self).2
    have h2 := pathT_len p fun y hy => h y (List.mem_cons_of_mem _ hy)
    rw [show z :: p = [z] ++ p from rfl, pathT_app, pathT_one, List.length_append, List.length_cons, List.length_append, List.length_singleton]
    omega
set_option maxRecDepth 100000 in
set_option maxHeartbeats 8000000 in
theorem written_any {w : World} (hP : PtW w) {v : Value} {p : List Int} (hr : Reads .i64 w v p) (hp : ∀ z ∈ p, 0 ≤ z ∧ z < 9223372036854775807) (hl : p.length ≤ 1048577) :
    Calls Tryz.prog 34 #[v] w fun e w' => e = .returned (.string (strOfNums (pathT p))) ∧ Below w.heap.size w w' := by
  obtain ⟨ao, cap, rfl, h1, h2, hc⟩ := hr
  have HP := hide hP
  have HC := hide hc
  have HZ := hide hp
  obtain ⟨n, hn⟩ : ∃ n, p.length = n := ⟨_, rfl⟩
  have HN := hide hn
  rw [hn] at h1 hl ⊢
  clear hP hc hp hn
  go_enter Tryz.func34, Tryz.ntmps34
  go_upto_region 2 with fail
  have BN := Bd.new w
  have K0 : Below w.heap.size w (w.alloc (.cells #[.pointer none, .slice none 0 0] 100)) := (Below.refl _ _).alloc (Nat.le_refl _) _
  obtain ⟨W1, hW1⟩ : ∃ W1, w.alloc (.cells #[.pointer none, .slice none 0 0] 100) = W1 := ⟨_, rfl⟩
  rw [hW1] at BN K0 ⊢
  have HB := hide BN
  have HK := hide K0
  clear hW1 BN K0
  go_wp2
  go_loopw [8] (fun i wr => ∃ j : Nat, i = .int .i64 (j : Int) ∧ j ≤ n ∧ Hid (Bd w.heap.size w.heap.size (pathT (p.take j)) wr) ∧ Hid (Below w.heap.size w wr)) (fun i _ => n - (intOf i).toNat)
  case atStart => exact ⟨0, rfl, by omega, hide (by simpa [pathT] using HB.out), HK⟩
  case round =>
    obtain ⟨j, rfl, hj, HBJ, HW⟩ := hrel
    by_cases hjx : j < n
    · have q1 : (j : Int) < (n : Int) := by omega
      have hjp : j < p.length := by rw [HN.out]; exact hjx
      obtain ⟨b, off, rfl, hb, hcell⟩ := HC.out (by omega)
      have c0 := (HW.out.cell (p := ⟨b, off + j, none⟩) hb).trans (hcell j hjp)
      have hlb : Nt.lb p j = p[j] := by simp [Nt.lb, hjp]
      rw [hlb] at c0
      have HT := hide (show pathT (p.take (j + 1)) = pathT (p.take j) ++ [47] ++ itoL p[j] by
        rw [List.take_add_one, List.getElem?_eq_getElem hjp, pathT_app]
        simp [pathT_one])
      have hz := HZ.out p[j] (List.getElem_mem hjp)
      have hlen := pathT_len (p.take j) (fun z hz => HZ.out z (List.mem_of_mem_take hz))
      have hlen2 : (pathT (p.take j)).length ≤ 30000000 := by
        have : (p.take j).length ≤ j := by simp; omega
        omega
      have hil := itoL_len p[j] hz.1 hz.2
      obtain ⟨z, hzz⟩ : ∃ z, p[j] = z := ⟨_, rfl⟩
      rw [hzz] at c0 HT hz hil
      obtain ⟨ps, hps⟩ : ∃ ps, pathT (p.take j) = ps := ⟨_, rfl⟩
      rw [hps] at HBJ HT hlen2
      clear hlb hzz hps hlen hcell
      have HI := hide hil
      have HL2 := hide hlen2
      have HZZ := hide hz
      clear hil hlen2 hz
      go_wp2_with fail
      refine (Bd.byte HBJ.out (by decide) (by decide) (by have := HL2.out; omega) HW.out.size).mono ?_
      rintro e w2 ⟨rfl, hB2, hb2⟩
      have HB2 := hide hB2
      have HW2 := hide (HW.out.trans hb2)
      clear hB2 hb2 c0
      go_wp2_with fail
      refine (itoa_any (HP.out.below HW2.out) HZZ.out.1 HZZ.out.2).mono ?_
      rintro e w3 ⟨rfl, hb3⟩
      have HB3 := hide (HB2.out.below hb3)
      have HW3 := hide (HW2.out.trans (hb3.mono HW2.out.size))
      clear hb3
      go_wp2_with fail
      refine (Bd.strW HB3.out (by have := HI.out; have := HL2.out; simp only [List.length_append, List.length_singleton]; omega) HW3.out.size).mono ?_
      rintro e w4 ⟨rfl, hB4, hb4⟩
      have HB4 := hide (show Bd w.heap.size w.heap.size (pathT (p.take (j + 1))) w4 by rw [HT.out]; exact hB4)
      have HW4 := hide (HW3.out.trans hb4)
      clear hB4 hb4
      go_wp2
      go_roundw
      case rel => exact ⟨j + 1, by simp, by omega, HB4, HW4⟩
      case measure => simp [intOf]; omega
    · have q1 : ¬ (j : Int) < (n : Int) := by omega
      have e : p.take j = p := List.take_of_length_le (by rw [HN.out]; omega)
      rw [e] at HBJ
      go_wp2_with fail
      refine (Bd.string HBJ.out HW.out.size).mono ?_
      rintro e w4 ⟨rfl, hb4⟩
      have HW4 := hide (HW.out.trans hb4)
      clear hb4
      go_wp2
      go_ret
      exact ⟨rfl, HW4.out⟩
end Go.Proofs.YticmlelalbaalaaGreatDoor
