/- layer 16: Close -/
import Derived.Test.YtefmlajndillbaaGreatDoorJsW
import Derived.Deep.RegionHeld3
namespace Go.Proofs.YtefmlajndillbaaGreatDoor
open Go.RowKit
set_option linter.unusedVariables false

/-- what Close tells -/
def codeC (s : Sc) : Nat := if s.st.bad = 0 then (if wholeB' s.st then 0 else 3) else s.st.bad
theorem Tl.lower {w : World} {a : Nat → Addr} {L L' n : Nat} {k : Int} {v : Value} (h : Tl w a L n k v) (hL : L' ≤ L) : Tl w a L' n k v := by
  rcases h with h | ⟨m, g, h1, h2, h3, h4, h5⟩
  · exact Or.inl h
  · exact Or.inr ⟨m, g, h1, h2, Nat.le_trans hL h3, h4, h5⟩
set_option maxRecDepth 100000 in
theorem jClose {w : World} {a : Nat → Addr} {B p : Nat} {ov : Value} {s : Sc} (h : ScP w a B p ov s) (hS : Snt w a) :
    Calls Tryz.prog 15 #[.pointer (some ⟨p, 0, none⟩)] w fun e w' => ∃ v, e = .returned v ∧ Tl w' a w.heap.size (codeC s) s.size v ∧ Below w.heap.size w w' := by
  have C0 := hide (jmissing h.sc)
  have C1 := hide (jwholeT h.sc)
  have CT := hide (show ∀ u, Below w.heap.size w u → ∀ n, n ≤ 11 → Calls Tryz.prog 33 #[erV a n, .int .i64 s.size] u fun e w' => ∃ v, e = .returned v ∧ Tl w' a u.heap.size n s.size v ∧ Below u.heap.size u w' from
    fun u hu n hn => jtold (hS.below hu) hn)
  have CC : ∀ u, Below w.heap.size w u → (u.cell? ⟨p, 5, none⟩ = some (erV a s.st.bad) ∧ u.cell? ⟨p, 2, none⟩ = some (.int .i64 s.size)) := fun u hu =>
    ⟨((h.below hu).sc.cell 5).trans rfl, ((h.below hu).sc.cell 2).trans rfl⟩
  have CI := hide (show ∀ u, Below w.heap.size w u → u.cell? ⟨1, 0, none⟩ = some (erV a 3) from fun u hu => (hS.below hu).cell 2 (by omega))
  have c5 := (CC w (Below.refl _ _)).1
  have hbd := h.good.bd
  have hle : s.st.bad ≤ 11 := by omega
  have K : Below w.heap.size w w.drew := (Below.refl _ _).drew
  clear h hS
  by_cases hb : s.st.bad = 0
  · rw [hb] at c5 CC
    have e0 : erV a 0 = .nilIface := rfl
    rw [e0] at c5 CC
    cases hw : wholeB' s.st with
    | true =>
      have E : codeC s = 0 := by simp [codeC, hb, hw]
      rw [E]; clear E
      rw [hw] at C1
      have CT0 := hide (fun u hu => CT.out u hu 0 (by omega))
      rw [e0] at CT0
      clear CT CI hbd hle hb e0
      generalize (s.size : Int) = sz at CC CT0 ⊢
      go_enter Tryz.func15, Tryz.ntmps15
      go_wp2_with fail
      refine C0.out.mono ?_
      rintro e w1 ⟨rfl, rfl⟩
      go_wp2_with fail
      refine C1.out.mono ?_
      rintro e w1 ⟨rfl, rfl⟩
      go_wp2_with fail
      go_region_held3 (fun u => u.cell? ⟨p, 5, none⟩ = some .nilIface ∧ u.cell? ⟨p, 2, none⟩ = some (.int .i64 sz)) (with_reducible exact CC _ K)
      (first
        | (go_at_call 33; (refine (CT0.out _ K).mono ?_); rintro e w2 ⟨v, rfl, ht, hb2⟩; replace K := K.trans (hb2.mono K.size)))
      have HSZ := hide (show w1.heap.size ≤ w1.drew.heap.size from Nat.le_refl _)
      go_wp2
      go_ret
      exact ⟨v, rfl, Tl.lower ht HSZ.out, K⟩
    | false =>
      have E : codeC s = 3 := by simp [codeC, hb, hw]
      rw [E]; clear E
      rw [hw] at C1
      have CT0 := hide (fun u hu => CT.out u hu 3 (by omega))
      have e3 : erV a 3 = .iface 128 (.pointer (some (a 2))) := rfl
      have CD : ∀ u, Below w.heap.size w u → (u.cell? ⟨1, 0, none⟩ = some (.iface 128 (.pointer (some (a 2)))) ∧ u.cell? ⟨p, 2, none⟩ = some (.int .i64 s.size)) := fun u hu => ⟨CI.out u hu, (CC u hu).2⟩
      rw [e3] at CT0
      clear CT CI hbd hle hb e0 CC e3
      generalize (s.size : Int) = sz at CD CT0 ⊢
      go_enter Tryz.func15, Tryz.ntmps15
      go_wp2_with fail
      refine C0.out.mono ?_
      rintro e w1 ⟨rfl, rfl⟩
      go_wp2_with fail
      refine C1.out.mono ?_
      rintro e w1 ⟨rfl, rfl⟩
      go_wp2_with fail
      go_region_held3 (fun u => u.cell? ⟨1, 0, none⟩ = some (.iface 128 (.pointer (some (a 2)))) ∧ u.cell? ⟨p, 2, none⟩ = some (.int .i64 sz)) (with_reducible exact CD _ K)
      (first
        | (go_at_call 33; (refine (CT0.out _ K).mono ?_); rintro e w2 ⟨v, rfl, ht, hb2⟩; replace K := K.trans (hb2.mono K.size)))
      have HSZ := hide (show w1.heap.size ≤ w1.drew.heap.size from Nat.le_refl _)
      go_wp2
      go_ret
      exact ⟨v, rfl, Tl.lower ht HSZ.out, K⟩
  · have E : codeC s = s.st.bad := by simp [codeC, hb]
    rw [E]; clear E
    have CT0 := hide (fun u hu => CT.out u hu s.st.bad hle)
    obtain ⟨m, hm⟩ : ∃ m, s.st.bad = m + 1 := ⟨s.st.bad - 1, by omega⟩
    rw [hm] at c5 CC CT0 ⊢
    have e3 : erV a (m + 1) = .iface 128 (.pointer (some (a m))) := rfl
    rw [e3] at c5 CC CT0
    clear CT CI hbd hle hb e3 hm C1
    generalize (s.size : Int) = sz at CC CT0 ⊢
    go_enter Tryz.func15, Tryz.ntmps15
    go_wp2_with fail
    refine C0.out.mono ?_
    rintro e w1 ⟨rfl, rfl⟩
    go_wp2_with fail
    go_region_held3 (fun u => u.cell? ⟨p, 5, none⟩ = some (.iface 128 (.pointer (some (a m)))) ∧ u.cell? ⟨p, 2, none⟩ = some (.int .i64 sz)) (with_reducible exact CC _ K)
      (first
        | (go_at_call 33; (refine (CT0.out _ K).mono ?_); rintro e w2 ⟨v, rfl, ht, hb2⟩; replace K := K.trans (hb2.mono K.size)))
    have HSZ := hide (show w1.heap.size ≤ w1.drew.heap.size from Nat.le_refl _)
    go_wp2
    go_ret
    exact ⟨v, rfl, Tl.lower ht HSZ.out, K⟩

end Go.Proofs.YtefmlajndillbaaGreatDoor
