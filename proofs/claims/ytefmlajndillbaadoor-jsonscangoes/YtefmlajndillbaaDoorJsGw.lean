/- JsonscanGoes: complete, the walk -/
import Derived.Test.YtefmlajndillbaaDoorJsGo
namespace Go.Proofs.YtefmlajndillbaaDoor
open Go.RowKit
set_option linter.unusedVariables false

theorem may_split {k : Nat} (h : k < 17) : mayL = mayL.take k ++ Nt.lb mayL k :: mayL.drop (k + 1) := by
  have hk : k < mayL.length := h
  have e : Nt.lb mayL k = mayL[k] := by simp [Nt.lb, hk]
  rw [e, List.getElem_cons_drop]
  exact (List.take_append_drop k mayL).symm
theorem may_byt : uByt mayL := by
  intro x hx
  simp [mayL] at hx
  omega
theorem may_lb {k : Nat} (h : k < 17) : 0 ≤ Nt.lb mayL k ∧ Nt.lb mayL k < 256 := by
  have hk : k < mayL.length := h
  have := may_byt _ (List.getElem_mem hk)
  simpa [Nt.lb, hk] using this
theorem may_take {k : Nat} (h : k < 17) {p : Int → Prop} (h0 : ∀ b ∈ mayL.take k, p b) (h1 : p (Nt.lb mayL k)) : ∀ b ∈ mayL.take (k + 1), p b := by
  have hk : k < mayL.length := h
  have e : mayL.take (k + 1) = mayL.take k ++ [Nt.lb mayL k] := by
    rw [List.take_add_one]; congr 1; simp [Nt.lb, hk]
  rw [e]
  intro b hb
  rcases List.mem_append.1 hb with g | g
  · exact h0 b g
  · simp at g; rw [g]; exact h1
def mayS : ByteArray := ⟨#[34, 93, 125, 58, 48, 128, 160, 144, 114, 117, 101, 97, 108, 115, 100, 99, 92]⟩
theorem mayS_eq : strOfNums mayL = mayS := rfl
theorem may_cut {k : Nat} (h : k < 17) : mayS.extract k (k + 1) = strOfNums [Nt.lb mayL k] := by
  rw [← mayS_eq, utxt_cut]
  congr 1
  have hk : k < mayL.length := h
  have e : mayL.take (k + 1) = mayL.take k ++ [Nt.lb mayL k] := by
    rw [List.take_add_one]; congr 1; simp [Nt.lb, hk]
  rw [e, List.drop_left' (by simp; omega)]
theorem write_one {fs : List Int} {b : Int} (h : (writeB fs sc0).st.bad = 0) : writeB (fs ++ [b]) sc0 = takeB b (writeB fs sc0) := by
  rw [writeB_append, writeB, if_pos h]; rfl
theorem uByt_snoc {fs : List Int} {b : Int} (h : uByt fs) (h0 : 0 ≤ b) (h1 : b < 256) : uByt (fs ++ [b]) := fun x hx => by
  rcases List.mem_append.1 hx with g | g
  · exact h x g
  · simp at g; omega
/-- what the inner loop has found -/
def Fnd (X : Sc) (k : Nat) (ms : List Int) : Prop := (ms = [] ∧ ∀ b ∈ mayL.take k, accB X b = false) ∨ (∃ c0, ms = [c0] ∧ mayL.find? (accB X) = some c0)
set_option maxRecDepth 100000 in
set_option maxHeartbeats 8000000 in
theorem jcomplete {w : World} {a : Nat → Addr} {es : List Int} {ch : ByteArray} (hS : Snt w a) (hb : uByt es) (hch : ch = strOfNums es) (hl : es.length ≤ 1000) (hX : Liv (writeB es sc0)) :
    Calls Tryd.prog 15 #[.string ch] w fun e w' => e = .returned (.bool true) ∧ Below w.heap.size w w' := by
  have HS := hide hS
  have HI := hide (show uByt es ∧ es.length ≤ 1000 + 0 ∧ Liv (writeB es sc0) ∧ mu (writeB es sc0) + 0 ≤ 699 from ⟨hb, by omega, hX, by have := mu_le hX; omega⟩)
  have HC := hide hch
  clear hS hb hch hl hX
  go_enter Tryd.func15, Tryd.ntmps15
  go_wp2
  go_loopg [0, 3] 700 (fun c sv i wr => ∃ (j : Nat) (fs : List Int), j ≤ 700 ∧ i = .int .i64 j ∧ sv = .string (strOfNums fs) ∧ c = 700 - j ∧ Hid (uByt fs ∧ fs.length ≤ 1000 + j ∧ Liv (writeB fs sc0) ∧ mu (writeB fs sc0) + j ≤ 699) ∧ Hid (Below w.heap.size w wr))
  case atStart => exact ⟨0, es, by omega, rfl, by rw [HC.out], by omega, HI, hide (Below.refl _ _)⟩
  case round =>
    obtain ⟨j, fs, hj, rfl, rfl, hc, HF, HB⟩ := hrel
    have hj7 : j < 700 := by have := HF.out.2.2.2; omega
    have p1 : (j : Int) < 700 := by omega
    have p2 : (j : Int) + 1 ≤ 9223372036854775807 := by omega
    obtain ⟨so, hso⟩ : ∃ so, strOfNums fs = so := ⟨_, rfl⟩
    obtain ⟨L, hL⟩ : ∃ L, fs.length = L := ⟨_, rfl⟩
    have hsz : so.size = L := by rw [← hso, strOfNums_size, hL]
    have hL2 : L ≤ 1700 := by have := HF.out.2.1; omega
    obtain ⟨X, hX⟩ : ∃ X, writeB fs sc0 = X := ⟨_, rfl⟩
    have hXs : X.size = L := by
      have h1 := (write_size fs sc0).2.2 HF.out.2.2.1.bad
      rw [hX, hL] at h1
      have h2 : sc0.size = 0 := rfl
      omega
    have HX := hide hX
    have HSo := hide hso
    have HLn := hide hL
    have HXs := hide hXs
    have hliv := HF.out.2.2.1
    rw [hX] at hliv
    have HLiv := hide hliv
    have CR := hide (jread (es := fs) (ch := so) (HS.out.below HB.out) HF.out.1 HSo.out.symm (by omega))
    rw [hX, hXs] at CR
    rw [hso]
    clear hso hL hX hXs hliv HI HC
    by_cases hcc : codeC X = 0
    · go_wp2_with fail
      refine CR.out.mono ?_
      rintro e w2 ⟨v2, rfl, ht2, hb2⟩
      have hv := ht2.none hcc
      subst hv
      have B2 := hide (HB.out.trans (hb2.mono HB.out.size))
      clear ht2 hb2 CR
      go_wp2
      go_ret
      exact ⟨rfl, B2.out⟩
    · obtain ⟨cn, hfind, hmu⟩ := next_ok HLiv.out hcc
      have HN := hide (And.intro hfind hmu)
      clear hfind hmu
      go_wp2_with fail
      refine CR.out.mono ?_
      rintro e w2 ⟨v2, rfl, ht2, hb2⟩
      obtain ⟨vu, vx, hv⟩ := ht2.some hcc
      subst hv
      have B2 := hide (HB.out.trans (hb2.mono HB.out.size))
      clear ht2 hb2 CR HB
      go_wp2
      go_loopg [7, 8] 17 (fun c mv i wr2 => ∃ (k : Nat) (ms : List Int), k ≤ 17 ∧ i = .int .i64 k ∧ mv = .string (strOfNums ms) ∧ c = 17 - k ∧ Hid (Fnd X k ms) ∧ Hid (Below w.heap.size w wr2))
      case atStart => exact ⟨0, [], by omega, rfl, rfl, by omega, hide (Or.inl ⟨rfl, by simp⟩), B2⟩
      case round =>
        obtain ⟨k, ms, hk, rfl, rfl, hc2, HFn, HB2⟩ := hrel
        clear B2
        rcases HFn.out with ⟨hms, hno⟩ | ⟨c0, hms, hf0⟩
        · subst hms
          have HNo := hide hno
          clear hno
          rw [show strOfNums [] = (⟨#[]⟩ : ByteArray) from rfl]
          by_cases hk17 : k < 17
          · have q1 : (k : Int) < 17 := by omega
            have q2 : (0 : Int) ≤ (k : Int) := by omega
            obtain ⟨m, hm⟩ : ∃ m, k + 1 = m := ⟨_, rfl⟩
            have q3 : (k : Int) + 1 = (m : Int) := by omega
            have q4 : (k : Int) ≤ (m : Int) := by omega
            have q5 : (m : Int) ≤ 17 := by omega
            obtain ⟨b, hb⟩ : ∃ b, Nt.lb mayL k = b := ⟨_, rfl⟩
            have hbb := may_lb hk17
            rw [hb] at hbb
            have hcut := may_cut hk17
            rw [hm, hb] at hcut
            obtain ⟨sb, hsb⟩ : ∃ sb, strOfNums [b] = sb := ⟨_, rfl⟩
            rw [hsb] at hcut
            have hsbz : sb.size = 1 := by rw [← hsb, strOfNums_size]; rfl
            have hslA : ∀ u : World, (Instr.slice 9 (.string mayS) (some (.int .i64 k)) (some (.int .i64 m)) none).run Tryd.prog u = .ok (.string sb) u := fun u => by
              have h1 := run_slice_string (P := Tryd.prog) u 9 mayS .i64 .i64 (k : Int) (m : Int) Tryd.underlying9 (by omega) (by omega) (by show (m : Int) ≤ 17; omega)
              rw [h1]
              simp only [Int.toNat_natCast]
              rw [hcut]
            simp only [mayS] at hslA
            have HSL := hide hslA
            have hsl := hslA wr
            clear hslA
            clear hcut q4 q5
            have hjoin : so ++ sb = strOfNums (fs ++ [b]) := by rw [← HSo.out, ← hsb, utxt_join]
            have CR2 := hide (jread (es := fs ++ [b]) (ch := so ++ sb) (HS.out.below HB2.out) (uByt_snoc HF.out.1 hbb.1 hbb.2) hjoin (by have := HLn.out; simp; omega))
            have hw1 := write_one (b := b) HF.out.2.2.1.bad
            rw [HX.out] at hw1
            rw [hw1] at CR2
            have HSb := hide hsb
            have HM := hide (And.intro hm hb)
            have m1 : L + 1 ≤ 9223372036854775807 := by omega
            cases hacc : accB X b with
            | true =>
              have hz : (takeB b X).size = L + 1 := by have := of_decide_eq_true hacc; have h2 := HXs.out; omega
              rw [hz] at CR2
              have HA := hide hacc
              clear hz hw1 hjoin hm hb hsb hacc
              go_wp2_with fail
              refine CR2.out.mono ?_
              rintro e w3 ⟨v3, rfl, ht3, hb3⟩
              have B3 := hide (HB2.out.trans (hb3.mono HB2.out.size))
              clear ht3 hb3 CR2
              have hsl3 := HSL.out w3
              go_wp2
              go_roundg (17 - (k + 1))
              case measure => omega
              case rel =>
                refine ⟨k + 1, [b], by omega, by rw [HM.out.1], by rw [HSb.out], rfl, hide (Or.inr ⟨b, rfl, ?_⟩), B3⟩
                have h1 := find_at (s := X) (may_split hk17) HNo.out (by rw [HM.out.2]; exact HA.out)
                rw [HM.out.2] at h1
                exact h1
            | false =>
              obtain ⟨z, hz⟩ : ∃ z, (takeB b X).size = z := ⟨_, rfl⟩
              obtain ⟨L1, hL1⟩ : ∃ L1 : Nat, L + 1 = L1 := ⟨_, rfl⟩
              have q6 : (L : Int) + 1 = (L1 : Int) := by omega
              have hne0 : ¬ ((z : Int) = (L1 : Int)) := by have := of_decide_eq_false hacc; have h2 := HXs.out; omega
              have hne : ((z : Int) == (L1 : Int)) = false := beq_eq_false_iff_ne.2 hne0
              clear hL1 hne0
              rw [hz] at CR2
              have HA := hide hacc
              clear hz hw1 hjoin hm hb hsb hacc
              go_wp2_with fail
              refine CR2.out.mono ?_
              rintro e w3 ⟨v3, rfl, ht3, hb3⟩
              have B3 := hide (HB2.out.trans (hb3.mono HB2.out.size))
              clear ht3 hb3 CR2
              go_wp2
              go_roundg (17 - (k + 1))
              case measure => omega
              case rel =>
                refine ⟨k + 1, [], by omega, by rw [HM.out.1], rfl, rfl, hide (Or.inl ⟨rfl, ?_⟩), B3⟩
                exact may_take hk17 HNo.out (by rw [HM.out.2]; exact HA.out)
          · exfalso
            have hk2 : k = 17 := by omega
            subst hk2
            have h1 := HN.out.1
            have h2 : mayL.find? (accB X) = none := List.find?_eq_none.2 fun b hb => by
              have := HNo.out b (by exact hb)
              simp [this]
            rw [h2] at h1
            cases h1
        · subst hms
          have hcn : c0 = cn := by have := HN.out.1; rw [hf0] at this; exact Option.some.inj this
          subst hcn
          obtain ⟨sb, hsb⟩ : ∃ sb, strOfNums [c0] = sb := ⟨_, rfl⟩
          have hsbz : sb.size = 1 := by rw [← hsb, strOfNums_size]; rfl
          have hfull : sb.toList.isEmpty = false := jtxt_full (by omega)
          have hjoin : so ++ sb = strOfNums (fs ++ [c0]) := by rw [← HSo.out, ← hsb, utxt_join]
          obtain ⟨so2, hso2⟩ : ∃ so2, strOfNums (fs ++ [c0]) = so2 := ⟨_, rfl⟩
          rw [hso2] at hjoin
          rw [hsb]
          have m1 : L + 1 ≤ 9223372036854775807 := by omega
          have hcm : c0 ∈ mayL := List.mem_of_find?_eq_some hf0
          have hacc := List.find?_some hf0
          have hcb := may_byt c0 hcm
          have hlv : Liv (takeB c0 X) := liv_take HLiv.out c0 hcb.1 hcb.2 (of_decide_eq_true hacc)
          have hw1 := write_one (b := c0) HF.out.2.2.1.bad
          rw [HX.out] at hw1
          have HRel := hide (show uByt (fs ++ [c0]) ∧ (fs ++ [c0]).length ≤ 1000 + (j + 1) ∧ Liv (writeB (fs ++ [c0]) sc0) ∧ mu (writeB (fs ++ [c0]) sc0) + (j + 1) ≤ 699 from
            ⟨uByt_snoc HF.out.1 hcb.1 hcb.2, by have := HF.out.2.1; simp; omega, by rw [hw1]; exact hlv, by rw [hw1]; have h1 := HN.out.2; have h2 := HF.out.2.2.2; rw [HX.out] at h2; omega⟩)
          have HSo2 := hide hso2
          clear hsb hso2 hcm hacc hcb hlv hw1 hf0
          by_cases hk17 : k < 17
          · have q1 : (k : Int) < 17 := by omega
            go_wp2
            go_roundg (700 - (j + 1))
            case measure => omega
            case rel => exact ⟨j + 1, fs ++ [c0], by omega, by go_num, by rw [HSo2.out], rfl, HRel, HB2⟩
          · have q1 : ¬ ((k : Int) < 17) := by omega
            go_wp2
            go_roundg (700 - (j + 1))
            case measure => omega
            case rel => exact ⟨j + 1, fs ++ [c0], by omega, by go_num, by rw [HSo2.out], rfl, HRel, HB2⟩

end Go.Proofs.YtefmlajndillbaaDoor
