/- nat.trim -/
import Derived.Test.YtmpdkeafbjibpaaDoorKit
namespace Go.Proofs.YtmpdkeafbjibpaaDoor
open Go.RowKit

set_option maxHeartbeats 400000 in
theorem trim_any (ao : Option Addr) (cap : Nat) (xs : List Int) (w : World) (hl : xs.length ≤ cap) (hm : cap ≤ maxLen) (hc : Cells .u32 w ao xs) (ho : Nt.Ok xs) :
    Calls Tryd.prog 41 #[.slice ao xs.length cap] w fun e w' => w' = w ∧ ∃ k, k ≤ xs.length ∧ e = .returned (.slice ao k k) ∧ Nt.Canon (xs.take k) ∧ Nt.val (xs.take k) = Nt.val xs := by
  unfold maxLen at hm
  obtain ⟨n, hn⟩ : ∃ n, n = xs.length := ⟨_, rfl⟩
  have Hn : Hid (n = xs.length) := hn
  rw [← hn] at hl ⊢
  clear hn
  go_enter Tryd.func41, Tryd.ntmps41
  go_wp2
  go_loop [3] (fun s => ∃ k : Nat, k ≤ n ∧ s = .int .i64 k ∧ ∀ i, k ≤ i → i < n → Nt.lb xs i = 0) (fun s => (intOf s).toNat)
  case atStart => exact ⟨n, Nat.le_refl _, rfl, fun i h1 h2 => by omega⟩
  case round =>
    obtain ⟨k, hk, rfl, hz⟩ := hrel
    by_cases hp : 0 < k
    · obtain ⟨b, off, rfl, hb, hcell⟩ := hc (by have := Hn.out; omega)
      have hg := hcell (k - 1) (by have := Hn.out; omega)
      clear hcell
      by_cases hq : Nt.lb xs (k - 1) = 0
      · have hq' : (Nt.lb xs (k - 1) == 0) = true := by simp [hq]
        have Hq : Hid (Nt.lb xs (k - 1) = 0) := hq
        clear hq
        go_wp2
        go_round
        case rel => exact ⟨k - 1, by omega, by go_num, fun i h1 h2 => by
          by_cases e : i = k - 1
          · subst e; exact Hq.out
          · exact hz i (by omega) h2⟩
        case measure => simp [intOf]; omega
      · have hq' : (Nt.lb xs (k - 1) == 0) = false := by simp [hq]
        go_wp2
        go_ret
        have hx : n = xs.length := Hn.out
        refine ⟨rfl, k, by omega, by simp, Nt.canon_take ho (by omega) (fun _ => hq), ?_⟩
        rw [Nt.val_take (by omega), ← Nt.vt_cut (xs := xs) (by omega) (fun i h1 h2 => hz i h1 h2)]
        rw [hx]; rfl
    · have hk0 : k = 0 := by omega
      subst hk0
      go_wp2
      go_ret
      have hx : n = xs.length := Hn.out
      refine ⟨rfl, 0, by omega, by simp, by simpa using Nt.canon_nil, ?_⟩
      rw [Nt.val_take (by omega), ← Nt.vt_cut (xs := xs) (by omega) (fun i h1 h2 => hz i h1 h2)]
      rw [hx]; rfl

theorem trim_arg {w : World} {v : Value} {n : Int} {m : Nat} (h : Arg w v n m) :
    Calls Tryd.prog 41 #[v] w fun e w' => w' = w ∧ ∃ ao zs, e = .returned (.slice ao zs.length zs.length) ∧ zs.length ≤ m ∧ zs.length ≤ maxLen ∧ Cells .u32 w ao zs ∧ Nt.Canon zs ∧ Nt.val zs = n := by
  obtain ⟨xs, ⟨ao, cap, rfl, h1, h2, h3⟩, h4, h5, h6⟩ := h
  refine (trim_any ao cap xs w h1 h2 h3 h4).mono ?_
  rintro e w' ⟨rfl, k, hk, rfl, hc, hv⟩
  have hl : (xs.take k).length = k := by rw [List.length_take, Nat.min_eq_left hk]
  exact ⟨rfl, ao, xs.take k, by rw [hl], by omega, by omega, h3.take hk, hc, hv.trans h5⟩

/-- of a row that was made: what is handed out -/
theorem trim_row {w : World} {B g : Nat} {zs : List Int} {cap : Nat} (hr : Row .u32 59 w g zs) (hB : B ≤ g) (hc : zs.length ≤ cap) (hm : cap ≤ maxLen) (ho : Nt.Ok zs) :
    Calls Tryd.prog 41 #[.slice (some ⟨g, 0, none⟩) zs.length cap] w fun e w' => w' = w ∧ ∃ v, e = .returned v ∧ Num B w v (Nt.val zs) zs.length := by
  refine (trim_any (some ⟨g, 0, none⟩) cap zs w hc hm (fun _ => ⟨g, 0, rfl, hr.lt, fun i hi => by rw [Nat.zero_add]; exact hr.cell hi⟩) ho).mono ?_
  rintro e w' ⟨rfl, k, hk, rfl, hcn, hv⟩
  exact ⟨rfl, _, rfl, _, hr.made hB hk (by omega), hcn, hv, by rw [List.length_take]; omega⟩

end Go.Proofs.YtmpdkeafbjibpaaDoor
