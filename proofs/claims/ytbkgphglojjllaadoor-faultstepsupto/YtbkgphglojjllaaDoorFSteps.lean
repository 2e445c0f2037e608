/- steps: the texts between the strokes -/
import Derived.Test.YtbkgphglojjllaaDoorFStepM
import Derived.Laws.OwnMore
import Derived.OwnWalk
import Derived.BigQuiet
namespace Go.Proofs.YtbkgphglojjllaaDoor
open Go.RowKit
set_option linter.unusedVariables false

theorem strInfo : (Tryd.prog.info? 9).map (fun i => (i.zero, i.size, i.bytes)) = some (some (.string ⟨#[]⟩), 1, 16) := by kernel_rfl
theorem info_str : ∃ i, Tryd.prog.info? 9 = some i ∧ i.zero = some (.string ⟨#[]⟩) ∧ i.size = 1 ∧ i.bytes = 16 := by
  obtain ⟨i, hi, h⟩ := Option.map_eq_some_iff.1 strInfo
  simp only [Prod.mk.injEq] at h
  exact ⟨i, hi, h.1, h.2.1, h.2.2⟩
/-- append of one text to a list of one's own -/
theorem wpList_append_str {w : World} {ops : Array Oper} {rest : List Oper} {o : Oper} {a : Act} {Q : Exit → Act → World → Prop} (hgd : o.guard = none) (s x : Operand)
    (ho : o.op = .call { callee := .builtin .append, args := #[s, x], argTypes := #[56, 56] })
    (base : Nat) (v : Value) (n : Nat) (xs : List Value) (hs : a.eval s = v) (hown : w.ownsRow base 9 1 v n xs)
    (g c : Nat) (t : ByteArray) (hx : a.eval x = .slice (some ⟨g, 0, none⟩) 1 c) (hc : w.cell? ⟨g, 0, none⟩ = some (.string t))
    (h63 : n + 1 ≤ maxLen) (hby : (n + 1) * 16 ≤ 140737488355328) (hbase : base ≤ w.heap.size)
    (h : ∀ v' w', w'.ownsRow base 9 1 v' (n + 1) (xs ++ [.string t]) → Below base w w' → wpList Tryd.prog ops Q rest (a.put o.dst v') w') : wpList Tryd.prog ops Q (o :: rest) a w := by
  obtain ⟨i0, hi0, hz0, hz1, hz2⟩ := info_str
  have hr : ∀ k, v.ownBlock = some k → base ≤ k := by
    intro k hk
    rcases hown.2 with ⟨rfl, _⟩ | ⟨g, cap, cur, rfl, hg, _⟩
    · cases hk
    · cases hk; exact hg
  refine wpList_append_own w hgd s x _ ho base 9 i0 _ 1 16 Tryd.underlying56 hi0 hz0 hz1 hz2 rfl (by decide) v n xs hs hown ⟨g, 0, none⟩ 1 c [.string t] hx rfl ?_ ?_ h63 hby hbase fun v' w' h2 h3 _ => h v' w' h2 ((Below.refl _ w).grown h3 hbase hr)
  · intro j u hu
    cases j with
    | zero => cases hu; exact hc
    | succ j => cases hu
  · intro u hu
    rw [List.mem_singleton.1 hu]; rfl

theorem mem_grow {out : List (List UInt8)} {l : List UInt8} {i j : Nat} (h : ∀ x ∈ out, x.length ≤ i) (hj : i ≤ j) (hl : l.length ≤ j) : ∀ x ∈ out ++ [l], x.length ≤ j := by
  intro x hx
  rcases List.mem_append.1 hx with g | g
  · exact Nat.le_trans (h x g) hj
  · rw [List.mem_singleton.1 g]; exact hl
set_option maxHeartbeats 4000000 in
set_option maxRecDepth 100000 in
theorem steps_any {w : World} {s : ByteArray} {res : List (List UInt8)} (hs : s.size ≤ 1000000) (h : stp s.data.toList [] = some res) :
    Calls Tryd.prog 27 #[.string s] w fun e w' => ∃ v, e = .returned (.tuple #[v, .bool true]) ∧ w'.ownsRow w.heap.size 9 1 v res.length (res.map tV) ∧ Below w.heap.size w w' := by
  have H0 := hide h
  have HL : s.data.toList.length = s.size := (Lib.size_eq s).symm
  clear h
  go_enter Tryd.func27, Tryd.ntmps27
  go_wp2
  go_loopw [4, 5, 6] (fun p q r wr => ∃ (i : Nat) (out : List (List UInt8)), q = .int .i64 i ∧ i ≤ s.size ∧ (∀ x ∈ out, x.length ≤ i) ∧ out.length ≤ i ∧ Hid (stp (s.data.toList.drop i) out = some res) ∧ Hid (wr.ownsRow w.heap.size 9 1 p out.length (out.map tV)) ∧ Hid (Below w.heap.size w wr)) (fun _ q _ _ => s.size - (intOf q).toNat)
  case atStart => exact ⟨0, [], rfl, by omega, by simp, by simp, H0, hide (World.ownsRow_nil _ _ _ _), hide (Below.refl _ w)⟩
  case round =>
    obtain ⟨i, out, rfl, hi, hx, hol, HP, HO, HB⟩ := hrel
    by_cases hil : i < s.size
    · have q1 : (i : Int) < (s.size : Int) := by omega
      have q0 : (0 : Int) ≤ (i : Int) := by omega
      obtain ⟨c, hc⟩ : ∃ c, s.data.toList[i]'(by omega) = c := ⟨_, rfl⟩
      have hd : s.data.toList.drop i = c :: s.data.toList.drop (i + 1) := by rw [← hc]; exact List.drop_eq_getElem_cons (by omega)
      have hb : (s[i]'hil).toNat = c.toNat := by
        rw [← hc]; rfl
      have hr := HP.out
      rw [hd] at hr
      have SZ := HB.out.size
      rcases stp_round hr with ⟨rfl, hn⟩ | ⟨c1, c2, o, l, rfl, hn⟩ | ⟨rfl, o, l, d, r', rfl, hrd, hn⟩
      · have hb2 : (s[i]'hil).toNat = 47 := hb
        replace hn := hide hn
        replace SZ := hide SZ
        clear hr hd hb hc
        go_wp2_with (at_builtin; refine wpList_append_str rfl _ _ rfl w.heap.size _ out.length _ rfl (HO.out.alloc _) wr.heap.size 1 ⟨#[]⟩ rfl (by simp) (by unfold maxLen; omega) (by omega) (by have := SZ.out; simp; omega) ?_; intro v1 w1 ho1 hb1; have HO1 := hide ho1; have HB1 := hide ((HB.out.alloc SZ.out _).trans hb1); clear ho1 hb1)
        go_roundw
        case rel => exact ⟨i + 1, out ++ [[]], by simp, by omega, mem_grow hx (Nat.le_succ i) (Nat.zero_le _), by simp; omega, hn, hide (by simpa [tV] using HO1.out), HB1⟩
        case measure => simp [intOf]; omega
      · obtain ⟨n0, hn0⟩ : ∃ n0, o.length = n0 := ⟨_, rfl⟩
        have hlo : (o ++ [l]).length = n0 + 1 := by simp [hn0]
        rw [hlo] at HO hol
        rcases HO.out.2 with ⟨_, h0⟩ | ⟨g, cap, cur, rfl, _⟩
        · omega
        have cg := HO.out.cellAt n0 (by omega)
        rw [show ((o ++ [l]).map tV)[n0]? = some (.string ⟨l.toArray⟩) from by subst hn0; simp [tV]] at cg
        have fg := HO.out.frozenAt n0
        have hst := hide (HO.out.stored n0)
        have gb : w.heap.size ≤ g := (HO.out.lt g rfl).1
        have hll := hx l (by simp)
        have z1 : ((c.toNat : Int) == 47) = false := by
          refine beq_eq_false_iff_ne.2 fun e => c1 ?_
          exact UInt8.toNat_inj.1 (by simpa using (by omega : c.toNat = 47))
        have z2 : ((c.toNat : Int) == 126) = false := by
          refine beq_eq_false_iff_ne.2 fun e => c2 ?_
          exact UInt8.toNat_inj.1 (by simpa using (by omega : c.toNat = 126))
        replace hn := hide hn
        clear HO
        have q2 : (0 : Int) ≤ (n0 : Int) := by omega
        have q3 : (n0 : Int) < (n0 : Int) + 1 := by omega
        have w1 : IntKind.i64.wrap ((n0 : Int) + 1 - 1) = n0 := by rw [IntKind.wrap_i64]; omega
        have w3 : IntKind.i64.wrap (n0 : Int) = n0 := by rw [IntKind.wrap_i64]; omega
        have w2 : IntKind.i64.wrap ((i : Int) + 1) = (i : Int) + 1 := by rw [IntKind.wrap_i64]; omega
        have q4 : (i : Int) + 1 ≤ (s.size : Int) := by omega
        have q5 : (i : Int) ≤ (i : Int) + 1 := by omega
        have ex : s.extract i (i + 1) = ⟨#[c]⟩ := by
          apply ByteArray.ext
          rw [ByteArray.data_extract]
          apply Array.toList_inj.1
          rw [Array.toList_extract]
          simp [List.extract, hd]
        obtain ⟨sc, hsc⟩ : ∃ sc : ByteArray, ⟨#[c]⟩ = sc := ⟨_, rfl⟩
        obtain ⟨tl, htl⟩ : ∃ tl : ByteArray, ⟨l.toArray⟩ = tl := ⟨_, rfl⟩
        obtain ⟨tn, htn⟩ : ∃ tn : ByteArray, ⟨(l ++ [c]).toArray⟩ = tn := ⟨_, rfl⟩
        have HN := hide (show tV (l ++ [c]) = .string tn from by rw [← htn]; rfl)
        have es : tl.size = l.length := by rw [← htl, Lib.size_eq]
        have e1 : sc.size = 1 := by rw [← hsc]; rfl
        have ea : tl ++ sc = tn := by
          rw [← htl, ← hsc, ← htn]
          apply ByteArray.ext
          rw [ByteArray.data_append]; simp
        rw [hsc] at ex
        rw [htl] at cg
        have k1 : ¬ ((9223372036854775807 : Int) < (tl.size : Int) + (sc.size : Int)) := by omega
        have k2 : (tl.size : Int) + (sc.size : Int) ≤ 9223372036854775807 := by omega
        have k3 : ¬ (9223372036854775807 < tl.size + sc.size) := by omega
        clear hsc htl htn es e1
        clear hd hc hr
        go_wp2
        have cd : wr.drew.cell? ⟨g, n0, none⟩ = some (.string tl) := cg
        have fd : wr.drew.frozen? ⟨g, n0, none⟩ = false := fg
        go_region_with (fail)
        have HO1 := hide (show ((wr.setCell ⟨g, n0, none⟩ (.string tn)).drew).ownsRow w.heap.size 9 1 (.slice (some ⟨g, 0, none⟩) (n0 + 1) cap) (n0 + 1) ((o ++ [l ++ [c]]).map tV) from by
          have h := hst.out (.string tn)
          rw [show ((o ++ [l]).map tV).set n0 (.string tn) = (o ++ [l ++ [c]]).map tV from by
            subst hn0
            rw [List.map_append, List.map_append, List.set_append_right _ _ (by simp)]
            simp [HN.out]] at h
          exact h.1)
        have HB1 := hide (show Below w.heap.size w ((wr.setCell ⟨g, n0, none⟩ (.string tn)).drew) from (HB.out.setCell (p := ⟨g, n0, none⟩) gb _).drew)
        clear hst
        go_wp2
        go_roundw
        case rel => exact ⟨i + 1, o ++ [l ++ [c]], by simp, by omega, mem_grow (fun x h => hx x (List.mem_append_left _ h)) (by omega) (by simp; omega), by simp [hn0]; omega, hn, hide (by simpa [hn0] using HO1.out), HB1⟩
        case measure => simp [intOf]; omega
      · obtain ⟨n0, hn0⟩ : ∃ n0, o.length = n0 := ⟨_, rfl⟩
        have hlo : (o ++ [l]).length = n0 + 1 := by simp [hn0]
        rw [hlo] at HO hol
        rcases HO.out.2 with ⟨_, h0⟩ | ⟨g, cap, cur, rfl, _⟩
        · omega
        have cg := HO.out.cellAt n0 (by omega)
        rw [show ((o ++ [l]).map tV)[n0]? = some (.string ⟨l.toArray⟩) from by subst hn0; simp [tV]] at cg
        have fg := HO.out.frozenAt n0
        have hst := hide (HO.out.stored n0)
        have gb : w.heap.size ≤ g := (HO.out.lt g rfl).1
        have hll := hx l (by simp)
        have hi1 : i + 1 < s.size := by
          have := congrArg List.length hrd
          rw [List.length_drop, List.length_cons] at this
          omega
        have hd1 : s.data.toList.drop (i + 2) = r' := by
          have e := congrArg (List.drop 1) hrd
          rw [List.drop_drop] at e
          simpa using e
        have hb3 : (s[i + 1]'hi1).toNat = d.toNat := by
          have e : (s.data.toList.drop (i + 1))[0]? = some d := by rw [hrd]; rfl
          rw [List.getElem?_drop] at e
          have e2 := (List.getElem?_eq_some_iff.1 e).2
          rw [← e2]; rfl
        have hb2 : (s[i]'hil).toNat = 126 := hb
        have q2 : (0 : Int) ≤ (n0 : Int) := by omega
        have q3 : (n0 : Int) < (n0 : Int) + 1 := by omega
        have w1 : IntKind.i64.wrap ((n0 : Int) + 1 - 1) = n0 := by rw [IntKind.wrap_i64]; omega
        have w3 : IntKind.i64.wrap (n0 : Int) = n0 := by rw [IntKind.wrap_i64]; omega
        have w2 : IntKind.i64.wrap ((i : Int) + 1) = (i : Int) + 1 := by rw [IntKind.wrap_i64]; omega
        have w5 : IntKind.i64.wrap ((i : Int) + 1 + 1) = (i : Int) + 1 + 1 := by rw [IntKind.wrap_i64]; omega
        have q4 : (i : Int) + 1 < (s.size : Int) := by omega
        have q5 : (0 : Int) ≤ (i : Int) + 1 := by omega
        have q6 : ((i : Int) + 1 == (s.size : Int)) = false := beq_eq_false_iff_ne.2 (by omega)
        rcases hn with ⟨rfl, hn⟩ | ⟨rfl, hn⟩
        · obtain ⟨tl, htl⟩ : ∃ tl : ByteArray, ⟨l.toArray⟩ = tl := ⟨_, rfl⟩
          obtain ⟨tn, htn⟩ : ∃ tn : ByteArray, ⟨(l ++ [126]).toArray⟩ = tn := ⟨_, rfl⟩
          have HN := hide (show tV (l ++ [126]) = .string tn from by rw [← htn]; rfl)
          have es : tl.size = l.length := by rw [← htl, Lib.size_eq]
          have ea : tl ++ (⟨#[126]⟩ : ByteArray) = tn := by
            rw [← htl, ← htn]
            apply ByteArray.ext
            rw [ByteArray.data_append]; simp
          rw [htl] at cg
          have k3 : ¬ (9223372036854775807 < tl.size + 1) := by omega
          have HK3 := hide k3
          clear k3
          have hb4 : (s[i + 1]'hi1).toNat = 48 := hb3
          have hb5 : (((s[i + 1]'hi1).toNat : Nat) : Int) = 48 := by rw [hb4]; rfl
          rw [← hd1] at hn
          replace hn := hide hn
          clear HO hr hd hc hb hb3 hrd hd1 htl htn es
          have HO1 := hide (show (wr.setCell ⟨g, n0, none⟩ (.string tn)).ownsRow w.heap.size 9 1 (.slice (some ⟨g, 0, none⟩) (n0 + 1) cap) (n0 + 1) ((o ++ [l ++ [126]]).map tV) from by
            have h := hst.out (.string tn)
            rw [show ((o ++ [l]).map tV).set n0 (.string tn) = (o ++ [l ++ [126]]).map tV from by
              subst hn0
              rw [List.map_append, List.map_append, List.set_append_right _ _ (by simp)]
              simp [HN.out]] at h
            exact h.1)
          have HB1 := hide (show Below w.heap.size w (wr.setCell ⟨g, n0, none⟩ (.string tn)) from HB.out.setCell (p := ⟨g, n0, none⟩) gb _)
          clear hst
          go_wp2
          all_goals
            go_roundw
            case rel => exact ⟨i + 2, o ++ [l ++ [126]], by simp; omega, by omega, mem_grow (fun x h => hx x (List.mem_append_left _ h)) (by omega) (by simp; omega), by simp [hn0]; omega, hn, hide (by simpa [hn0] using HO1.out), HB1⟩
            case measure => simp [intOf]; omega
        · obtain ⟨tl, htl⟩ : ∃ tl : ByteArray, ⟨l.toArray⟩ = tl := ⟨_, rfl⟩
          obtain ⟨tn, htn⟩ : ∃ tn : ByteArray, ⟨(l ++ [47]).toArray⟩ = tn := ⟨_, rfl⟩
          have HN := hide (show tV (l ++ [47]) = .string tn from by rw [← htn]; rfl)
          have es : tl.size = l.length := by rw [← htl, Lib.size_eq]
          have ea : tl ++ (⟨#[47]⟩ : ByteArray) = tn := by
            rw [← htl, ← htn]
            apply ByteArray.ext
            rw [ByteArray.data_append]; simp
          rw [htl] at cg
          have k3 : ¬ (9223372036854775807 < tl.size + 1) := by omega
          have HK3 := hide k3
          clear k3
          have hb4 : (s[i + 1]'hi1).toNat = 49 := hb3
          have hb5 : (((s[i + 1]'hi1).toNat : Nat) : Int) = 49 := by rw [hb4]; rfl
          rw [← hd1] at hn
          replace hn := hide hn
          clear HO hr hd hc hb hb3 hrd hd1 htl htn es
          have HO1 := hide (show (wr.setCell ⟨g, n0, none⟩ (.string tn)).ownsRow w.heap.size 9 1 (.slice (some ⟨g, 0, none⟩) (n0 + 1) cap) (n0 + 1) ((o ++ [l ++ [47]]).map tV) from by
            have h := hst.out (.string tn)
            rw [show ((o ++ [l]).map tV).set n0 (.string tn) = (o ++ [l ++ [47]]).map tV from by
              subst hn0
              rw [List.map_append, List.map_append, List.set_append_right _ _ (by simp)]
              simp [HN.out]] at h
            exact h.1)
          have HB1 := hide (show Below w.heap.size w (wr.setCell ⟨g, n0, none⟩ (.string tn)) from HB.out.setCell (p := ⟨g, n0, none⟩) gb _)
          clear hst
          go_wp2
          all_goals
            go_roundw
            case rel => exact ⟨i + 2, o ++ [l ++ [47]], by simp; omega, by omega, mem_grow (fun x h => hx x (List.mem_append_left _ h)) (by omega) (by simp; omega), by simp [hn0]; omega, hn, hide (by simpa [hn0] using HO1.out), HB1⟩
            case measure => simp [intOf]; omega
    · have q1 : ¬ ((i : Int) < (s.size : Int)) := by omega
      obtain rfl : i = s.size := by omega
      have hr := HP.out
      rw [List.drop_of_length_le (by omega)] at hr
      simp only [stp, Option.some.injEq] at hr
      subst hr
      clear H0 HP
      go_wp2
      go_ret2
      exact ⟨_, rfl, HO.out, HB.out⟩

end Go.Proofs.YtbkgphglojjllaaDoor
