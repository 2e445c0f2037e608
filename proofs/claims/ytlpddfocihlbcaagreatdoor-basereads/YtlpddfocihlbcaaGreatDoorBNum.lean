/- base.numberIn: a letter's number -/
import Derived.Test.YtlpddfocihlbcaaGreatDoorUFirst
import Derived.Test.YtlpddfocihlbcaaGreatDoorBMath
import Derived.Laws.RangeAny
import Derived.LoopTactic
namespace Go.Proofs.YtlpddfocihlbcaaGreatDoor
open Go.RowKit
set_option linter.unusedVariables false

theorem Tryz.infoY8 : (Tryz.prog.info? 5).map (fun i => (i.zero, i.size, i.bytes)) = some (some (.int .u8 0), 1, 1) := by kernel_rfl

theorem below_iter (w : World) (s : ByteArray) (p : Nat) : Below w.heap.size w (w.iter s p) := (Below.refl _ _).alloc (Nat.le_refl _) _
theorem idxOf_at {al : List Int} {c : Int} {k : Nat} (hk : k < al.length) (h : Nt.lb al k = c) (hn : ∀ j, j < k → Nt.lb al j ≠ c) : al.idxOf c = k ∧ c ∈ al := by
  have hm : c ∈ al := by rw [← h, ulb_get hk]; exact List.getElem_mem hk
  refine ⟨?_, hm⟩
  have h1 := List.idxOf_lt_length_iff.2 hm
  have h2 : Nt.lb al (al.idxOf c) = c := lb_idxOf hm
  rcases Nat.lt_trichotomy (al.idxOf c) k with g | g | g
  · exact absurd h2 (hn _ g)
  · exact g
  · have := List.not_of_lt_findIdx (p := fun x => x == c) (xs := al) (i := k) g
    rw [ulb_get hk] at h
    simp [h] at this
theorem not_mem_of {al : List Int} {c : Int} (h : ∀ j, j < al.length → Nt.lb al j ≠ c) : c ∉ al := by
  intro hm
  exact h _ (List.idxOf_lt_length_iff.2 hm) (lb_idxOf hm)
def bNo (al : List Int) (c : Int) : Int := if c ∈ al then (al.idxOf c : Nat) else 0

set_option maxRecDepth 100000 in
set_option maxHeartbeats 4000000 in
theorem numberIn_any {w : World} {al : List Int} {s : ByteArray} {c : Int} (hs : s = strOfNums al) (ha : ∀ x ∈ al, 0 ≤ x ∧ x < 128) (hl : al.length ≤ 100) (c0 : 0 ≤ c) (c1 : c < 256) :
    Calls Tryz.prog 14 #[.string s, .int .u8 c] w fun e w' => e = .returned (.tuple #[.int .u8 (bNo al c), .bool (decide (c ∈ al))]) ∧ Below w.heap.size w w' := by
  have hsz : s.size = al.length := by rw [hs, strOfNums_size]
  have HB : ∀ x ∈ al, 0 ≤ x ∧ x < 256 := fun x hx => by have := ha x hx; omega
  have Hix := hide (show ∀ p (h : p < s.size), (((s[p]'h).toNat : Nat) : Int) = Nt.lb al p from fun p h => by subst hs; exact utxt_at h HB)
  have HA := hide ha
  clear HB ha
  have HS := hide hs
  clear hs
  go_enter Tryz.func14, Tryz.ntmps14
  go_wp2
  go_loopw [4] (fun s4 wr => ∃ pos : Nat, s4 = .int .u8 0 ∧ wr = w.iter s pos ∧ pos ≤ s.size ∧ ∀ j, j < pos → Nt.lb al j ≠ c) (fun _ wr => s.size - wr.iterPos w.heap.size)
  case atStart => exact ⟨0, rfl, rfl, by omega, fun j hj => by omega⟩
  case round =>
    obtain ⟨pos, rfl, rfl, hp0, hne⟩ := hrel
    have HN := hide hne
    clear hne
    by_cases hp : pos < s.size
    · have hx := Hix.out pos hp
      have hpl : pos < al.length := by omega
      have hr := HA.out _ (show Nt.lb al pos ∈ al by rw [ulb_get hpl]; exact List.getElem_mem hpl)
      have hnx : ∀ ty, (Instr.next (.pointer (some ⟨w.heap.size, 0, none⟩)) true ty).run Tryz.prog (w.iter s pos) = _ := fun ty => run_next_ascii w s pos ty hp (by omega)
      rw [hx] at hnx
      obtain ⟨d, hd⟩ : ∃ d, Nt.lb al pos = d := ⟨_, rfl⟩
      rw [hd] at hnx hr
      have HD := hide hd
      clear hx hd
      by_cases hq : d = c
      · have q1 : (d == c) = true := by simp [hq]
        have HQ := hide hq
        clear hq
        go_wp2
        go_ret2
        obtain ⟨e1, e2⟩ := idxOf_at hpl (HD.out.trans HQ.out) HN.out
        refine ⟨?_, below_iter _ _ _⟩
        unfold bNo
        rw [if_pos e2, e1, decide_eq_true e2]
        congr 3
        all_goals omega
      · have q1 : (d == c) = false := by simp [hq]
        have HQ := hide hq
        clear hq
        go_wp2
        go_roundw
        case rel => exact ⟨pos + 1, rfl, rfl, by omega, fun j hj => by
          by_cases e : j = pos
          · subst e; rw [HD.out]; exact HQ.out
          · exact HN.out j (by omega)⟩
        case measure => simp; omega
    · have hnx : ∀ ty, (Instr.next (.pointer (some ⟨w.heap.size, 0, none⟩)) true ty).run Tryz.prog (w.iter s pos) = _ := fun ty => run_next_end w s pos ty hp
      go_wp2
      go_ret2
      have e2 : c ∉ al := not_mem_of fun j hj => HN.out j (by omega)
      refine ⟨?_, below_iter _ _ _⟩
      unfold bNo
      rw [if_neg e2, decide_eq_false e2]
      rfl

end Go.Proofs.YtlpddfocihlbcaaGreatDoor
