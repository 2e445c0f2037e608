/- layer 16: Write -/
import Derived.Test.YtefmlajndillbaaGreatDoorJsX
namespace Go.Proofs.YtefmlajndillbaaGreatDoor
open Go.RowKit
set_option linter.unusedVariables false

theorem write_end {es : List Int} {s : Sc} {k : Nat} (h : k = es.length ∨ (writeB (es.take k) s).st.bad ≠ 0) : writeB es s = writeB (es.take k) s := by
  rcases h with h | h
  · rw [h, List.take_length]
  · have e := writeB_append (es.take k) (es.drop k) s
    rw [List.take_append_drop] at e
    rw [e, writeB_bad h]
theorem write_step {es : List Int} {s : Sc} {k : Nat} (h : k < es.length) (hb : (writeB (es.take k) s).st.bad = 0) : writeB (es.take (k + 1)) s = takeB (Nt.lb es k) (writeB (es.take k) s) := by
  have e1 : es.take (k + 1) = es.take k ++ [Nt.lb es k] := by
    rw [List.take_add_one]; congr 1; simp [Nt.lb, h]
  rw [e1, writeB_append, writeB, if_pos hb]
  rfl
set_option maxRecDepth 100000 in
set_option maxHeartbeats 4000000 in
theorem jWrite {w : World} {a : Nat → Addr} {B p : Nat} {ov : Value} {s : Sc} {es : List Int} {ch : ByteArray} (h : ScP w a B p ov s) (hS : SntB B w a) (hb : uByt es) (hch : ch = strOfNums es) (hsz : s.size + es.length ≤ 9223372036854775807) :
    Calls Tryz.prog 13 #[.pointer (some ⟨p, 0, none⟩), .string ch] w fun e w' => ∃ v ov', e = .returned v ∧ ScP w' a B p ov' (writeB es s) ∧ Tl w' a w.heap.size (writeB es s).st.bad (writeB es s).size v ∧ Fr p ov ov' w w' := by
  have C0 := hide (jmissing h.sc)
  have hcs : ch.size = es.length := by rw [hch, strOfNums_size]
  have Hix := hide (show ∀ q (g : q < ch.size), (((ch[q]'g).toNat : Nat) : Int) = Nt.lb es q from fun q g => by subst hch; exact utxt_at g hb)
  have HBy := hide (show ∀ q, q < es.length → 0 ≤ Nt.lb es q ∧ Nt.lb es q < 256 from fun q g => by have := hb _ (List.getElem_mem g); simpa [Nt.lb, g] using this)
  have HH := hide h
  have HS := hide hS
  have HSZ := hide hsz
  have HGW := hide (show ∀ k, GoodS (writeB (es.take k) s) from fun k => good_write h.good _ (fun x hx => hb x (List.mem_of_mem_take hx)))
  clear h hS hb hch hsz
  obtain ⟨L, hL⟩ : ∃ L, es.length = L := ⟨_, rfl⟩
  have HL := hide hL
  rw [hL] at hcs
  go_enter Tryz.func13, Tryz.ntmps13
  go_wp2_with fail
  refine C0.out.mono ?_
  rintro e w1 ⟨rfl, rfl⟩
  go_wp2
  go_loopg [5] L (fun c i wr => ∃ (k : Nat) (ov1 : Value), k ≤ L ∧ i = .int .i64 k ∧ c = L - k ∧ Hid (ScP wr a B p ov1 (writeB (es.take k) s)) ∧ Hid (Fr p ov ov1 w1 wr))
  case atStart => exact ⟨0, ov, by omega, rfl, by omega, hide HH.out, hide (Fr.refl _ _ _)⟩
  case round =>
    obtain ⟨k, ov1, hk, rfl, hc, HP, HF⟩ := hrel
    have HBe := hide (HH.out.sc.toBelow HF.out)
    have HS1 := hide (HS.out.below HBe.out)
    have c5 := HP.out.sc.cell 5
    simp only [scC] at c5
    by_cases hlt : k < L
    · have p1 : (k : Int) < (L : Int) := by omega
      have p2 : (0 : Int) ≤ (k : Int) := by omega
      by_cases hbad : (writeB (es.take k) s).st.bad = 0
      · have hw := write_size (es.take k) s
        have hln : (es.take k).length ≤ k := by simp; omega
        have h63 := HSZ.out
        have hLL := HL.out
        have CT := hide (jtake (b := Nt.lb es k) HP.out hbad HS1.out (by omega) (HBy.out k (by omega)).1 (HBy.out k (by omega)).2)
        have hst := hide (write_step (s := s) (by omega : k < es.length) hbad)
        have hix := Hix.out k (by omega)
        simp only [erV, hbad, if_true] at c5
        have p3 : (k : Int) + 1 ≤ 9223372036854775807 := by omega
        clear hw hln h63 hLL
        go_wp2_with fail
        refine CT.out.mono ?_
        rintro e w2 ⟨rfl, ov2, h2, f2⟩
        have H2 := hide h2
        have F2 := hide (HF.out.trans f2)
        clear h2 f2 CT c5
        go_wp2
        go_roundg (L - (k + 1))
        case measure => omega
        case rel => exact ⟨k + 1, ov2, by omega, by go_num, rfl, by rw [hst.out]; exact H2, F2⟩
      · have hwe := hide (write_end (es := es) (s := s) (k := k) (Or.inr hbad))
        have hbd := (HGW.out k).bd
        have CT := hide (show ∀ u, Below wr.heap.size wr u → Calls Tryz.prog 33 #[erV a (writeB (es.take k) s).st.bad, .int .i64 (writeB (es.take k) s).size] u fun e w' => ∃ v, e = .returned v ∧ Tl w' a u.heap.size (writeB (es.take k) s).st.bad (writeB (es.take k) s).size v ∧ Below u.heap.size u w' from
          fun u hu => jtold ((HS1.out.below (hu.mono (Nat.le_trans HP.out.sc.le (Nat.le_of_lt HP.out.sc.lt)))).here) (by omega))
        have CC : ∀ u, Below wr.heap.size wr u → (u.cell? ⟨p, 5, none⟩ = some (erV a (writeB (es.take k) s).st.bad) ∧ u.cell? ⟨p, 2, none⟩ = some (.int .i64 (writeB (es.take k) s).size)) := fun u hu =>
          ⟨((HP.out.below hu).sc.cell 5).trans rfl, ((HP.out.below hu).sc.cell 2).trans rfl⟩
        have K : Below wr.heap.size wr wr.drew := (Below.refl _ _).drew
        obtain ⟨X, hX⟩ : ∃ X, writeB (es.take k) s = X := ⟨_, rfl⟩
        rw [hX] at HP CT CC c5 hbd hbad
        have HQ := hide (hwe.out.trans hX)
        clear hwe hX
        obtain ⟨m, hm⟩ : ∃ m, X.st.bad = m + 1 := ⟨X.st.bad - 1, by omega⟩
        have e3 : erV a (m + 1) = .iface 128 (.pointer (some (a m))) := rfl
        rw [hm, e3] at c5
        have HPP := hide HP.out
        generalize hev : erV a X.st.bad = ev at CT CC
        obtain ⟨sz, hzz⟩ : ∃ sz : Int, (X.size : Int) = sz := ⟨_, rfl⟩
        rw [hzz] at CT CC
        have HZ := hide hzz
        clear hev hzz hbd hm e3 hbad
        go_wp2_with fail
        go_region_held3 (fun u => u.cell? ⟨p, 5, none⟩ = some ev ∧ u.cell? ⟨p, 2, none⟩ = some (.int .i64 sz)) (with_reducible exact CC _ K)
          (first
            | (go_at_call 33; (refine (CT.out _ K).mono ?_); rintro e w2 ⟨v, rfl, ht, hb2⟩; replace K := K.trans (hb2.mono K.size)))
        have KK := hide K
        have HT := hide (Tl.lower (L' := w1.heap.size) ht HF.out.size)
        clear K ht hb2 CC CT
        go_wp2
        go_ret
        refine ⟨v, ov1, rfl, ?_⟩
        rw [HQ.out, HZ.out]
        exact ⟨HPP.out.below KK.out, HT.out, HF.out.trans (Fr.of_below KK.out)⟩
    · have p1 : ¬ ((k : Int) < (L : Int)) := by omega
      have hwe := hide (write_end (es := es) (s := s) (k := k) (Or.inl (by have := HL.out; omega)))
      have hbd := (HGW.out k).bd
      have CT := hide (show ∀ u, Below wr.heap.size wr u → Calls Tryz.prog 33 #[erV a (writeB (es.take k) s).st.bad, .int .i64 (writeB (es.take k) s).size] u fun e w' => ∃ v, e = .returned v ∧ Tl w' a u.heap.size (writeB (es.take k) s).st.bad (writeB (es.take k) s).size v ∧ Below u.heap.size u w' from
        fun u hu => jtold ((HS1.out.below (hu.mono (Nat.le_trans HP.out.sc.le (Nat.le_of_lt HP.out.sc.lt)))).here) (by omega))
      have CC : ∀ u, Below wr.heap.size wr u → (u.cell? ⟨p, 5, none⟩ = some (erV a (writeB (es.take k) s).st.bad) ∧ u.cell? ⟨p, 2, none⟩ = some (.int .i64 (writeB (es.take k) s).size)) := fun u hu =>
        ⟨((HP.out.below hu).sc.cell 5).trans rfl, ((HP.out.below hu).sc.cell 2).trans rfl⟩
      have K : Below wr.heap.size wr wr.drew := (Below.refl _ _).drew
      obtain ⟨X, hX⟩ : ∃ X, writeB (es.take k) s = X := ⟨_, rfl⟩
      rw [hX] at HP CT CC c5 hbd
      have HQ := hide (hwe.out.trans hX)
      clear hwe hX
      have HPP := hide HP.out
      generalize hev : erV a X.st.bad = ev at CT CC
      obtain ⟨sz, hzz⟩ : ∃ sz : Int, (X.size : Int) = sz := ⟨_, rfl⟩
      rw [hzz] at CT CC
      have HZ := hide hzz
      clear hev hzz hbd
      go_wp2_with fail
      go_region_held3 (fun u => u.cell? ⟨p, 5, none⟩ = some ev ∧ u.cell? ⟨p, 2, none⟩ = some (.int .i64 sz)) (with_reducible exact CC _ K)
        (first
          | (go_at_call 33; (refine (CT.out _ K).mono ?_); rintro e w2 ⟨v, rfl, ht, hb2⟩; replace K := K.trans (hb2.mono K.size)))
      have KK := hide K
      have HT := hide (Tl.lower (L' := w1.heap.size) ht HF.out.size)
      clear K ht hb2 CC CT
      go_wp2
      go_ret
      refine ⟨v, ov1, rfl, ?_⟩
      rw [HQ.out, HZ.out]
      exact ⟨HPP.out.below KK.out, HT.out, HF.out.trans (Fr.of_below KK.out)⟩

end Go.Proofs.YtefmlajndillbaaGreatDoor
