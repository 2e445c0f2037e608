/- layer 16: reaches, encoding, digitsLeft, backslash, secondSpan -/
import Derived.Test.YtefmlajndillbaaGreatDoorJsB
namespace Go.Proofs.YtefmlajndillbaaGreatDoor
open Go.RowKit
set_option linter.unusedVariables false

theorem jreaches {w : World} {l : List Int} (hb : uByt l) (hl : l.length ≤ 4) :
    Calls Tryz.prog 77 #[.string (strOfNums l)] w fun e w' => e = .returned (.int .i64 (rch l)) ∧ w' = w := by
  have hlo : uByt (l ++ [128, 128, 128]) := fun x hx => by
    rcases List.mem_append.1 hx with h | h
    · exact hb x h
    · simp at h; omega
  have hhi : uByt (l ++ [191, 191, 191]) := fun x hx => by
    rcases List.mem_append.1 hx with h | h
    · exact hb x h
    · simp at h; omega
  have C1 := hide (first_any (w := w) (s := strOfNums l ++ ⟨#[128, 128, 128]⟩) (at_ := 0) hlo (utxt_join l [128, 128, 128]) (by simp; omega))
  have C2 := hide (first_any (w := w) (s := strOfNums l ++ ⟨#[191, 191, 191]⟩) (at_ := 0) hhi (utxt_join l [191, 191, 191]) (by simp; omega))
  have hsz : (strOfNums l).size = l.length := strOfNums_size _
  have E : rch l = max (uFst (l ++ [128, 128, 128]) 0).2 (uFst (l ++ [191, 191, 191]) 0).2 := rfl
  rw [E]; clear E hb hlo hhi
  generalize strOfNums l = s at C1 C2 hsz ⊢
  generalize uFst (l ++ [128, 128, 128]) 0 = r1 at C1 ⊢
  generalize uFst (l ++ [191, 191, 191]) 0 = r2 at C2 ⊢
  obtain ⟨x1, n1⟩ := r1
  obtain ⟨x2, n2⟩ := r2
  have s1 : s.size + 3 ≤ 9223372036854775807 := by omega
  go_enter Tryz.func77, Tryz.ntmps77
  go_wp2_with fail
  refine C1.out.mono ?_
  rintro e w1 ⟨rfl, rfl⟩
  go_wp2_with fail
  refine C2.out.mono ?_
  rintro e w1 ⟨rfl, rfl⟩
  go_wp2
  all_goals go_ret
  all_goals exact ⟨ret_i64 (by omega), rfl⟩
theorem jconv {w : World} {b : Int} : (convert 35 9 (.slice (some ⟨w.heap.size, 0, none⟩) 1 1)).run Tryz.prog (w.alloc (.cells #[.int .u8 b] 5)).drew = .ok (.string (strOfNums [b])) (w.alloc (.cells #[.int .u8 b] 5)).drew := by
  refine run_convert_bytes_arg _ 35 5 Tryz.underlying35 Tryz.underlying5 w.heap.size 0 1 1 [b] rfl ?_ 9 Tryz.underlying9
  intro i hi
  have h0 : i = 0 := by simp at hi; omega
  subst h0
  show (w.alloc _).cell? _ = _
  rw [Lib.cell_of_heap (heap_alloc_new w _)]; rfl
set_option maxRecDepth 100000 in
theorem jencoding {w : World} {a : Nat → Addr} {B p : Nat} {nx ov : Value} {sz : Int} {t : St} {b : Int} (h : ScS w a B p nx sz ov t) (hb0 : 0 ≤ b) (hb1 : b < 256) (hbg : t.begun.length ≤ 3) (hbb : uByt t.begun) :
    Calls Tryz.prog 55 #[.pointer (some ⟨p, 0, none⟩), .int .u8 b] w (Outs w a B p nx sz ov (encodingB b t)) := by
  have hub : uByt (t.begun ++ [b]) := fun x hx => by
    rcases List.mem_append.1 hx with g | g
    · exact hbb x g
    · simp at g; omega
  have hu : Below w.heap.size w (w.alloc (.cells #[.int .u8 b] 5)) := (Below.refl _ _).alloc (Nat.le_refl _) _
  have h1 := (h.below hu).drew
  have HH := hide h1
  have FR := hide (Fr.of_below (p := p) (ov := ov) hu.drew)
  have CR := hide (jreaches (w := (w.alloc (.cells #[.int .u8 b] 5)).drew) hub (by simp; omega))
  have hcv := jconv (w := w) (b := b)
  have hj := utxt_join t.begun [b]
  have c8 := h.cell 8
  have f8 := h1.frz 8
  have c8' := h1.cell 8
  simp only [scC] at c8 c8'
  have hsz : (strOfNums t.begun).size = t.begun.length := strOfNums_size _
  have hsz2 : (strOfNums (t.begun ++ [b])).size = t.begun.length + 1 := by rw [strOfNums_size]; simp
  have hsz1 : (strOfNums [b]).size = 1 := by rw [strOfNums_size]; rfl
  have E0 : encodingB b t = if rch (t.begun ++ [b]) = 0 then no t else if t.begun.length + 1 < rch (t.begun ++ [b]) then go .encoding { t with begun := t.begun ++ [b] } else go .piece { t with begun := [] } := rfl
  rw [E0]; clear E0
  have HS1 := hide (h1.setBegun (t.begun ++ [b]))
  have HS2 := hide (h1.setBegun [])
  generalize rch (t.begun ++ [b]) = R at CR ⊢
  generalize hbs : strOfNums t.begun = bs at hcv hj c8 c8' hsz
  generalize hs2 : strOfNums (t.begun ++ [b]) = s2 at hj CR hsz2 HS1
  generalize hs1 : strOfNums [b] = s1 at hcv hj hsz1
  clear hbs hs2 hs1 hub hbb h h1 hu
  have lim : t.begun.length + 1 ≤ 9223372036854775807 := by omega
  by_cases r0 : R = 0
  · subst r0
    rw [if_pos rfl]
    go_enter Tryz.func55, Tryz.ntmps55
    go_wp2_with fail
    go_region
    go_wp2_with fail
    refine CR.out.mono ?_
    rintro e w1 ⟨rfl, rfl⟩
    go_wp2
    go_ret
    exact ⟨ov, rfl, HH.out, FR.out⟩
  · have r0' : ¬ ((R : Int) = 0) := by omega
    rw [if_neg r0]
    by_cases r1 : t.begun.length + 1 < R
    · rw [if_pos r1]
      have r1' : ((t.begun.length + 1 : Nat) : Int) < (R : Int) := by omega
      go_enter Tryz.func55, Tryz.ntmps55
      go_wp2_with fail
      go_region
      go_wp2_with fail
      refine CR.out.mono ?_
      rintro e w1 ⟨rfl, rfl⟩
      go_wp2
      go_ret
      exact ⟨ov, rfl, HS1.out, FR.out.setP _⟩
    · rw [if_neg r1]
      have r1' : ¬ (((t.begun.length + 1 : Nat) : Int) < (R : Int)) := by omega
      go_enter Tryz.func55, Tryz.ntmps55
      go_wp2_with fail
      go_region
      go_wp2_with fail
      refine CR.out.mono ?_
      rintro e w1 ⟨rfl, rfl⟩
      go_wp2
      go_ret
      exact ⟨ov, rfl, HS2.out, FR.out.setP _⟩
set_option maxHeartbeats 1000000 in
set_option maxRecDepth 100000 in
theorem jib0 {w : World} {s : ByteArray} {c : Int} : Calls Tryz.prog 89 #[.string s, .int .u8 c] w fun e w' => e = .returned (.int .i64 (Lib.indexByte s.data.toList c.toNat.toUInt8)) ∧ w' = w := by
  go_enter Tryz.func89, Tryz.ntmps89
  go_wp2
  rw [run_callFunc_extern Tryz.func94 (by kernel_rfl) (by kernel_rfl) (by kernel_rfl) (e := Extern.BytealgIndexByte.indexByte) (by kernel_rfl), Lib.run_indexByteString]
  simp only [Result.andThen]
  rw [Oper.upon_value]
  go_wp2
  go_ret
  exact ⟨rfl, rfl⟩
theorem jib {w : World} {s : ByteArray} {c : Int} : Calls Tryz.prog 76 #[.string s, .int .u8 c] w fun e w' => e = .returned (.int .i64 (Lib.indexByte s.data.toList c.toNat.toUInt8)) ∧ w' = w := by
  go_enter Tryz.func76, Tryz.ntmps76
  go_wp2_with fail
  refine jib0.mono ?_
  rintro e w1 ⟨rfl, rfl⟩
  go_wp2
  go_ret
  exact ⟨rfl, rfl⟩
theorem jib_esc {b : Int} (h0 : 0 ≤ b) (h1 : b < 256) : (0 ≤ Lib.indexByte [34, 92, 47, 98, 102, 110, 114, 116] b.toNat.toUInt8) ↔ escB b = true := by
  obtain ⟨n, rfl⟩ : ∃ n : Nat, b = n := ⟨b.toNat, by omega⟩
  have hn : n < 256 := by omega
  have key : ∀ m : Fin 256, (0 ≤ Lib.indexByte [34, 92, 47, 98, 102, 110, 114, 116] m.val.toUInt8) ↔ escB ((m.val : Nat) : Int) = true := by decide +kernel
  exact key ⟨n, hn⟩
theorem jbackslash {w : World} {a : Nat → Addr} {B p : Nat} {nx ov : Value} {sz : Int} {t : St} {b : Int} (h : ScS w a B p nx sz ov t) (hb0 : 0 ≤ b) (hb1 : b < 256) :
    Calls Tryz.prog 54 #[.pointer (some ⟨p, 0, none⟩), .int .u8 b] w (Outs w a B p nx sz ov (backslashB b t)) := by
  by_cases k1 : b = 117
  · subst k1
    have E : backslashB 117 t = go .unit t := rfl
    rw [E]; clear E
    go_enter Tryz.func54, Tryz.ntmps54
    go_wp2
    go_ret
    exact ⟨ov, rfl, h, Fr.refl _ _ _⟩
  · have C0 := hide (jib (w := w) (s := ⟨#[34, 92, 47, 98, 102, 110, 114, 116]⟩) (c := b))
    have hx := jib_esc hb0 hb1
    rw [show (⟨#[34, 92, 47, 98, 102, 110, 114, 116]⟩ : ByteArray).data.toList = [34, 92, 47, 98, 102, 110, 114, 116] from rfl] at C0
    generalize Lib.indexByte [34, 92, 47, 98, 102, 110, 114, 116] b.toNat.toUInt8 = r at C0 hx
    cases ke : escB b with
    | true =>
      have E : backslashB b t = go .piece t := by simp [backslashB, k1, ke]
      rw [E]; clear E
      have r0 : 0 ≤ r := hx.2 ke
      clear hx
      go_enter Tryz.func54, Tryz.ntmps54
      go_wp2_with fail
      refine C0.out.mono ?_
      rintro e w1 ⟨rfl, rfl⟩
      go_wp2
      go_ret
      exact ⟨ov, rfl, h, Fr.refl _ _ _⟩
    | false =>
      have E : backslashB b t = no t := by simp [backslashB, k1, ke]
      rw [E]; clear E
      have r0 : ¬ 0 ≤ r := fun e => by have := hx.1 e; rw [ke] at this; cases this
      have r1 : r < 0 := by omega
      clear hx r0
      go_enter Tryz.func54, Tryz.ntmps54
      go_wp2_with fail
      refine C0.out.mono ?_
      rintro e w1 ⟨rfl, rfl⟩
      go_wp2
      go_ret
      exact ⟨ov, rfl, h, Fr.refl _ _ _⟩
theorem jdigitsLeft {w : World} {a : Nat → Addr} {B p : Nat} {nx ov : Value} {sz : Int} {t : St} {b : Int} (h : ScS w a B p nx sz ov t) (hlf : -1 ≤ t.left ∧ t.left ≤ 3) :
    Calls Tryz.prog 93 #[.pointer (some ⟨p, 0, none⟩), .int .u8 b] w (Outs w a B p nx sz ov (digitsLeftB b t)) := by
  cases kh : jhxB b with
  | false =>
    have C0 := hide (jhexE (w := w) kh)
    have E : digitsLeftB b t = no t := by simp [digitsLeftB, kh]
    rw [E]; clear E
    go_enter Tryz.func93, Tryz.ntmps93
    go_wp2_with fail
    refine C0.out.mono ?_
    rintro e w1 ⟨rfl, rfl⟩
    go_wp2
    go_ret
    exact ⟨ov, rfl, h, Fr.refl _ _ _⟩
  | true =>
    have C0 := hide (jhexE (w := w) kh)
    have c9 := h.cell 9
    have f9 := h.frz 9
    have c10 := h.cell 10
    simp only [scC] at c9 c10
    have HH := hide (h.setLeft (t.left - 1))
    obtain ⟨n, hn⟩ : ∃ n, t.left = n := ⟨_, rfl⟩
    have hw : wrap64 (n - 1) = n - 1 := by unfold wrap64; omega
    rw [hn] at c9 HH hlf
    by_cases k1 : 0 < n - 1
    · have E : digitsLeftB b t = go .digitsLeft { t with left := n - 1 } := by simp [digitsLeftB, kh, hn]; omega
      rw [E]; clear E h
      go_enter Tryz.func93, Tryz.ntmps93
      go_wp2_with fail
      refine C0.out.mono ?_
      rintro e w1 ⟨rfl, rfl⟩
      go_wp2
      go_ret
      exact ⟨ov, rfl, HH.out, (Fr.refl _ _ _).setP _⟩
    · cases k2 : t.half with
      | true =>
        have E : digitsLeftB b t = go .secondHalf { t with left := n - 1 } := by simp [digitsLeftB, kh, hn, k2]; omega
        rw [E]; clear E h
        rw [k2] at c10
        go_enter Tryz.func93, Tryz.ntmps93
        go_wp2_with fail
        refine C0.out.mono ?_
        rintro e w1 ⟨rfl, rfl⟩
        go_wp2
        go_ret
        exact ⟨ov, rfl, HH.out, (Fr.refl _ _ _).setP _⟩
      | false =>
        have E : digitsLeftB b t = go .piece { t with left := n - 1 } := by simp [digitsLeftB, kh, hn, k2]; omega
        rw [E]; clear E h
        rw [k2] at c10
        go_enter Tryz.func93, Tryz.ntmps93
        go_wp2_with fail
        refine C0.out.mono ?_
        rintro e w1 ⟨rfl, rfl⟩
        go_wp2
        go_ret
        exact ⟨ov, rfl, HH.out, (Fr.refl _ _ _).setP _⟩
theorem jsecondSpan {w : World} {a : Nat → Addr} {B p : Nat} {nx ov : Value} {sz : Int} {t : St} {b : Int} (h : ScS w a B p nx sz ov t) :
    Calls Tryz.prog 104 #[.pointer (some ⟨p, 0, none⟩), .int .u8 b] w (Outs w a B p nx sz ov (secondSpanB b t)) := by
  have CM := hide (jmore h 2 false)
  by_cases k1 : 99 ≤ b ∧ b ≤ 102
  · have E : secondSpanB b t = moreB 2 false t := by rw [secondSpanB, if_pos (Or.inl k1)]
    rw [E]; clear E
    obtain ⟨x1, x2⟩ := k1
    go_enter Tryz.func104, Tryz.ntmps104
    go_wp2_with fail
    refine CM.out.mono ?_
    rintro e w1 ⟨ov1, rfl, h1, f1⟩
    go_wp2
    go_ret
    exact ⟨ov1, rfl, h1, f1⟩
  · by_cases k2 : 67 ≤ b ∧ b ≤ 70
    · have E : secondSpanB b t = moreB 2 false t := by rw [secondSpanB, if_pos (Or.inr k2)]
      rw [E]; clear E
      obtain ⟨x1, x2⟩ := k2
      have x3 : b < 99 := by omega
      go_enter Tryz.func104, Tryz.ntmps104
      go_wp2_with fail
      refine CM.out.mono ?_
      rintro e w1 ⟨ov1, rfl, h1, f1⟩
      go_wp2
      go_ret
      exact ⟨ov1, rfl, h1, f1⟩
    · have E : secondSpanB b t = no t := by rw [secondSpanB, if_neg (by omega)]
      rw [E]; clear E
      have y1 : (decide (99 ≤ b) && decide (b ≤ 102)) = false := by simp; omega
      have y2 : (decide (67 ≤ b) && decide (b ≤ 70)) = false := by simp; omega
      go_enter Tryz.func104, Tryz.ntmps104
      go_wp2
      all_goals first
        | (exfalso; simp_all; omega)
        | (go_ret; exact ⟨ov, rfl, h, Fr.refl _ _ _⟩)


end Go.Proofs.YtefmlajndillbaaGreatDoor
