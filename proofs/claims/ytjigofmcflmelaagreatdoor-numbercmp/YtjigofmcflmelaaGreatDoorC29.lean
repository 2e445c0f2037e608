/- VOff -/
import Derived.Test.YtjigofmcflmelaaGreatDoorC23
import Derived.Test.YtjigofmcflmelaaGreatDoorC20
namespace Go.Proofs.YtjigofmcflmelaaGreatDoor
open Go.RowKit
set_option linter.unusedVariables false

theorem row_offO {W W' : World} {b g : Nat} {E t : TypeId} {zs : List Int} (h : Row .u32 E W g zs) (hl : 0 < zs.length) (hg : W.heap[b]? = some (.cells #[.int .i8 0, .int .u64 0, .bool false, .slice none 0 0, .int .u64 0, .int .i8 0, .string ⟨#[]⟩, .slice none 0 0] t (0, 0))) (hs : ∀ j, j ≠ b → W'.heap[j]? = W.heap[j]?) : Row .u32 E W' g zs := by
  have hne : g ≠ b := by
    rintro rfl
    unfold Row at h
    rw [h] at hg
    cases zs with
    | nil => simp at hl
    | cons z zs => simp at hg
  unfold Row
  rw [hs g hne]
  exact h
theorem own_offO {W W' : World} {B b : Nat} {e : TypeId} {s n : Nat} {v : Value} {xs : List Value} (h : W.ownsRow B e s v n xs) (hne : ∀ g l c, v = .slice (some ⟨g, 0, none⟩) l c → g ≠ b) (hs : ∀ j, j ≠ b → W'.heap[j]? = W.heap[j]?) : W'.ownsRow B e s v n xs := by
  obtain ⟨h0, h1 | ⟨g, cap, cur, rfl, h2, h3, h4⟩⟩ := h
  · exact ⟨h0, .inl h1⟩
  · exact ⟨h0, .inr ⟨g, cap, cur, rfl, h2, (hs g (hne _ _ _ rfl)).trans h3, h4⟩⟩
theorem VaTl.offO {W W' : World} {B b : Nat} {t : TypeId} {v : Value} {xs : List Va} (h : VaTl B W v xs) (hg : W.heap[b]? = some (.cells #[.int .i8 0, .int .u64 0, .bool false, .slice none 0 0, .int .u64 0, .int .i8 0, .string ⟨#[]⟩, .slice none 0 0] t (0, 0))) (hs : ∀ j, j ≠ b → W'.heap[j]? = W.heap[j]?) : VaTl B W' v xs := by
  induction h with
  | mk g zs hB hl ho hm hk ih =>
    have hne : g ≠ b := by
      rintro rfl
      have hc := ((VaTl.mk g zs hB hl ho hm hk).mark (g := g) (c := zs.length + 1) (by simp)).1
      cases zs with
      | nil =>
        have h8 := cells8 hg
        simp only [List.map_nil, List.length_nil, Nat.zero_mul] at hc
        rw [h8.1] at hc
        cases hc
      | cons z zs =>
        have e : (List.map Prod.fst (z :: zs)).length * 8 = (zs.length * 8) + 8 := by simp; omega
        rw [e] at hc
        simp [World.cell?, hg] at hc
    exact .mk g zs hB hl (own_offO ho (fun g' l c e => by cases e; exact hne) hs) (fun q hq => ⟨by
      obtain ⟨g2, h1, h2, h3, h4⟩ := (hm q hq).1
      exact ⟨g2, h1, h2, h3, row_offO h4 (by simp) hg hs⟩, (hm q hq).2⟩) ih
theorem TwV.offO {W W' : World} {B b : Nat} {t : TypeId} {v : Value} {x : Va} (h : TwV B W v x) (hg : W.heap[b]? = some (.cells #[.int .i8 0, .int .u64 0, .bool false, .slice none 0 0, .int .u64 0, .int .i8 0, .string ⟨#[]⟩, .slice none 0 0] t (0, 0))) (hs : ∀ j, j ≠ b → W'.heap[j]? = W.heap[j]?) : TwV B W' v x := by
  obtain ⟨⟨vm, vk, h1, ⟨g2, q1, q2, q3, q4⟩, h3⟩, h4⟩ := h
  exact ⟨⟨vm, vk, h1, ⟨g2, q1, q2, q3, row_offO q4 (by simp) hg hs⟩, h3.offO hg hs⟩, h4⟩
theorem TwV.low {B B' : Nat} {w : World} {v : Value} {x : Va} (h : TwV B w v x) (hb : B' ≤ B) : TwV B' w v x := by
  obtain ⟨⟨vm, vk, h1, h2, h3⟩, h4⟩ := h
  exact ⟨⟨vm, vk, h1, twin_low h2 hb, h3.low hb⟩, h4⟩
theorem TwV.shape {B : Nat} {w : World} {v : Value} {x : Va} (h : TwV B w v x) : ∃ gm gk, v = .agg #[.int .i8 x.kind, .int .u64 x.n, .bool x.neg, .slice (some ⟨gm, 0, none⟩) x.mag.length (x.mag.length + 1), .int .u64 x.bits, .int .i8 x.ext, .string (strOfNums x.text), .slice (some ⟨gk, 0, none⟩) x.kids.length (x.kids.length + 1)] := by
  obtain ⟨⟨vm, vk, h1, ⟨g2, q1, -⟩, h3⟩, -⟩ := h
  obtain ⟨gk, q2, -⟩ := h3.shape
  subst q1 q2
  exact ⟨g2, gk, h1⟩
/-- has it come up, the slot holds a twin -/
def ReT (b : Bool) (B : Nat) (w : World) (s : Value) (x : Va) : Prop := b = true → TwV B w s x
theorem ReT.below {b : Bool} {B : Nat} {w w' : World} {s : Value} {x : Va} (h : ReT b B w s x) (hb : Below w.heap.size w w') : ReT b B w' s x := fun e => (h e).far hb
theorem ReT.put {b : Bool} {B : Nat} {W : World} {s : Value} {c : Nat} {t : TypeId} {x : Va} {v0 v1 v2 v3 v4 v5 v6 v7 : Value} (h : ReT b B W s x) (hg : W.heap[c]? = some (.cells #[.int .i8 0, .int .u64 0, .bool false, .slice none 0 0, .int .u64 0, .int .i8 0, .string ⟨#[]⟩, .slice none 0 0] t (0, 0))) : ReT b B ((((((((W.setCell ⟨c, 0, none⟩ v0).setCell ⟨c, 1, none⟩ v1).setCell ⟨c, 2, none⟩ v2).setCell ⟨c, 3, none⟩ v3).setCell ⟨c, 4, none⟩ v4).setCell ⟨c, 5, none⟩ v5).setCell ⟨c, 6, none⟩ v6).setCell ⟨c, 7, none⟩ v7) s x := fun e => (h e).offO hg fun j hj => set8_sameO hj

end Go.Proofs.YtjigofmcflmelaaGreatDoor
