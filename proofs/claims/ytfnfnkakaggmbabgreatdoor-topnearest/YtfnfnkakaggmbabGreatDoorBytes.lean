/- crucibleref01: trim, bytes, limbs -/
import Derived.Test.YtfnfnkakaggmbabGreatDoorNb
import Derived.Test.YtfnfnkakaggmbabGreatDoorAppZero
namespace Go.Proofs.YtfnfnkakaggmbabGreatDoor
open Go.RowKit

/-- a slice's length: for a loop's measure -/
def lenOfV : Value → Nat | .slice _ n _ => n | _ => 0

/-- bytes of a number -/
def BArg (w : World) (v : Value) (n : Int) (k : Nat) : Prop := ∃ zs, Reads .i64 w v zs ∧ Nb.Ok zs ∧ Nb.val zs = n ∧ zs.length ≤ k
/-- the bytes of a number: none 0 at the end -/
def BNum (w : World) (v : Value) (n : Int) (k : Nat) : Prop := ∃ zs, Reads .i64 w v zs ∧ Nb.Canon zs ∧ Nb.val zs = n ∧ zs.length ≤ k
theorem BNum.arg {w : World} {v : Value} {n : Int} {k : Nat} (h : BNum w v n k) : BArg w v n k := by
  obtain ⟨zs, h1, h2, h3, h4⟩ := h
  exact ⟨zs, h1, h2.1, h3, h4⟩
theorem BArg.below {w w' : World} {v : Value} {n : Int} {k : Nat} (h : BArg w v n k) (hb : Below w.heap.size w w') : BArg w' v n k := by
  obtain ⟨zs, h1, h2⟩ := h
  exact ⟨zs, h1.below hb, h2⟩
theorem BNum.below {w w' : World} {v : Value} {n : Int} {k : Nat} (h : BNum w v n k) (hb : Below w.heap.size w w') : BNum w' v n k := by
  obtain ⟨zs, h1, h2⟩ := h
  exact ⟨zs, h1.below hb, h2⟩

/-- one number appended: the block that it is laid in -/
theorem cells_one (w : World) (E : TypeId) (k : IntKind) (x : Int) : Cells k (w.alloc (.cells #[.int k x] E)) (some ⟨w.heap.size, 0, none⟩) [x] := by
  intro _
  refine ⟨w.heap.size, 0, rfl, by simp, fun i hi => ?_⟩
  have hi0 : i = 0 := by simpa using hi
  subst hi0
  simp [Nt.lb]

theorem below_own {w0 w w' : World} {B : Nat} {E : TypeId} {v : Value} {n : Nat} {xs : List Value} (h : Below B w0 w) (hB : B ≤ w.heap.size) (ho : w.ownsRow B E 1 v n xs) (hg : w.grownBy w' v.ownBlock) : Below B w0 w' :=
  h.grown hg hB (fun k hk => (ho.lt k hk).1)

theorem byte_step {V x P : Int} : V + (x % 256) * P + (x / 256) * (256 * P) = V + x * P := by
  have e := Int.emod_add_mul_ediv x 256
  have e2 : (x % 256 + 256 * (x / 256)) * P = x * P := by rw [e]
  rw [Int.add_mul] at e2
  rw [← Int.mul_assoc, Int.mul_comm (x / 256) 256]
  omega

/-- the top byte is the top limb's -/
theorem limbs_canon {ys zs : List Int} (hy : Nb.Canon ys) (hz : Nt.Ok zs) (hl : zs.length = (ys.length + 3) / 4) (hv : Nt.val zs = Nb.val ys) : Nt.Canon zs := by
  refine ⟨hz, fun hne h0 => ?_⟩
  obtain ⟨n, hn⟩ : ∃ n, zs.length = n + 1 := ⟨zs.length - 1, by have := List.length_pos_iff.2 hne; omega⟩
  have hye : ys ≠ [] := by intro e; subst e; rw [hn] at hl; simp at hl
  have h1 := Nb.canon_low hy hye
  have h2 : Nt.val zs = Nt.vt zs n := by
    unfold Nt.val
    rw [hn, Nt.vt_succ]
    rw [hn, Nat.add_sub_cancel] at h0
    rw [h0]; simp
  have h3 := (Nt.vt_bounds hz n).2
  have h4 := Nb.pw_mono (m := 4 * n) (n := ys.length - 1) (by omega)
  rw [Nb.pw_four] at h4
  omega

/-- what a row of limbs is worth while its bytes are laid in, from the top: those from m on are in -/
def LimbRel (ys zs : List Int) (m : Nat) : Prop :=
  Nb.val ys = Nb.vt ys m + (Nt.val zs - Nt.lb zs (m / 4) * Nt.pw (m / 4)) + Nt.lb zs (m / 4) * Nb.pw m ∧ Nt.lb zs (m / 4) < Nb.pw (4 - m % 4) ∧ ∀ j, j < m / 4 → Nt.lb zs j = 0

theorem limbRel_start (ys : List Int) : LimbRel ys (List.replicate ((ys.length + 3) / 4) 0) ys.length := by
  refine ⟨?_, ?_, fun j _ => Nt.lb_replicate _ _⟩
  · rw [Nt.lb_replicate]
    have e : Nt.val (List.replicate ((ys.length + 3) / 4) 0) = 0 := by
      unfold Nt.val; rw [Nt.vt_cut (k := 0) (by omega) (fun i _ _ => Nt.lb_replicate _ _)]; rfl
    rw [e]; simp [Nb.val]
  · rw [Nt.lb_replicate]; exact Nb.pw_pos _

theorem nt_val_set {zs : List Int} {i : Nat} (hi : i < zs.length) (q : Int) : Nt.val (zs.set i q) = Nt.val zs + (q - Nt.lb zs i) * Nt.pw i := by
  have : ∀ n, i < n → Nt.vt (zs.set i q) n = Nt.vt zs n + (q - Nt.lb zs i) * Nt.pw i := by
    intro n
    induction n with
    | zero => intro h; omega
    | succ n ih =>
      intro h
      rw [Nt.vt_succ, Nt.vt_succ]
      by_cases e : i = n
      · subst e; rw [Nt.vt_set (Nat.le_refl _), Nt.lb_set_eq hi, Int.sub_mul]; omega
      · rw [Nt.lb_set_ne e, ih (by omega)]; omega
  unfold Nt.val
  rw [List.length_set]
  exact this _ hi

/-- the limb that the next byte goes into -/
theorem limbRel_low {ys zs : List Int} {p : Nat} (h : LimbRel ys zs (p + 1)) : Nt.lb zs (p / 4) < Nb.pw (3 - p % 4) ∧ Nt.lb zs (p / 4) < 16777216 := by
  obtain ⟨_, h2, h3⟩ := h
  have key : Nt.lb zs (p / 4) < Nb.pw (3 - p % 4) := by
    by_cases e : p % 4 = 3
    · rw [h3 (p / 4) (by omega), e]; exact Nb.pw_pos _
    · rw [show (p + 1) / 4 = p / 4 by omega, show 4 - (p + 1) % 4 = 3 - p % 4 by omega] at h2
      exact h2
  have hm := Nb.pw_mono (m := 3 - p % 4) (n := 3) (by omega)
  rw [show Nb.pw 3 = 16777216 by decide] at hm
  exact ⟨key, by omega⟩

theorem limbRel_step {ys zs : List Int} {p : Nat} (hp : p / 4 < zs.length) (hb : Nt.lb ys p < 256) (h : LimbRel ys zs (p + 1)) :
    LimbRel ys (zs.set (p / 4) (Nt.lb zs (p / 4) * 256 + Nt.lb ys p)) p := by
  have hlow := (limbRel_low h).1
  obtain ⟨h1, h2, h3⟩ := h
  refine ⟨?_, ?_, fun j hj => ?_⟩
  · rw [nt_val_set hp, Nt.lb_set_eq hp, h1, Nb.vt_succ, Nb.pw_succ]
    by_cases e : p % 4 = 3
    · have h0 := h3 (p / 4) (by omega)
      obtain ⟨q, hq⟩ : ∃ q, (p + 1) / 4 = q := ⟨_, rfl⟩
      have e4 : 256 * Nb.pw p = Nt.pw q := by rw [← Nb.pw_succ, ← Nb.pw_four]; congr 1; omega
      rw [hq, h0, e4]
      simp only [Int.zero_mul, Int.zero_add, Int.sub_zero]
      omega
    · rw [show (p + 1) / 4 = p / 4 by omega]
      have e5 : Nt.lb zs (p / 4) * (256 * Nb.pw p) = Nt.lb zs (p / 4) * 256 * Nb.pw p := by rw [Int.mul_assoc]
      rw [e5, Int.sub_mul, Int.add_mul, Int.add_mul]
      omega
  · rw [Nt.lb_set_eq hp, show 4 - p % 4 = (3 - p % 4) + 1 by omega, Nb.pw_succ]
    omega
  · rw [Nt.lb_set_ne (by omega)]
    exact h3 j (by omega)

theorem num_since {B B' : Nat} {w : World} {v : Value} {n : Int} {k : Nat} (h : Num B w v n k) (hB : B' ≤ B) : Num B' w v n k := by
  obtain ⟨zs, ⟨ao, h1, h2, h3⟩, h4⟩ := h
  refine ⟨zs, ⟨ao, h1, h2, fun hp => ?_⟩, h4⟩
  obtain ⟨g, rest, a, b, c⟩ := h3 hp
  exact ⟨g, rest, a, by omega, c⟩

end Go.Proofs.YtfnfnkakaggmbabGreatDoor
