/- escape: Scan, Unquote -/
import Derived.Test.YtegokdhmpopggaaDoorXScan
namespace Go.Proofs.YtegokdhmpopggaaDoor
open Go.RowKit
set_option linter.unusedVariables false

theorem Rdr.new (w : World) (s : ByteArray) (k : Nat) : Rdr w.heap.size w.heap.size s k [] (w.alloc (.cells #[.string s, .int .i64 k, .pointer none, .slice none 0 0] 55)) :=
  Or.inl ⟨Nat.le_refl _, .slice none 0 0, heap_alloc_new w _, World.ownsRow_nil _ _ _ _, by simp [Value.ownBlock]⟩

set_option maxHeartbeats 4000000 in
set_option maxRecDepth 100000 in
theorem scan_any {w : World} {a : Nat → Addr} {s : ByteArray} {ls : List Int} {at_ : Int} (hb : uByt ls) (hs : s = strOfNums ls) (hl : ls.length ≤ 140737488351232) (hS : Snt w a) (ht : Tab w) :
    Calls Tryd.prog 11 #[.string s, .int .i64 at_] w fun e w' => ScanIs ls at_ a e w' ∧ Below w.heap.size w w' := by
  have hsz : s.size = ls.length := by rw [hs, strOfNums_size]
  by_cases hin : 0 ≤ at_ ∧ at_ ≤ ls.length
  · obtain ⟨k, rfl⟩ : ∃ k : Nat, at_ = k := ⟨at_.toNat, by omega⟩
    have hk : k ≤ ls.length := by omega
    have hR := Rdr.new w s k
    have hB0 : Below w.heap.size w (w.alloc (.cells #[.string s, .int .i64 k, .pointer none, .slice none 0 0] 55)) := (Below.refl _ _).alloc (Nat.le_refl _) _
    have HR := hide (show RK w.heap.size w.heap.size s ls k [] (w.alloc (.cells #[.string s, .int .i64 k, .pointer none, .slice none 0 0] 55)) (w.alloc (.cells #[.string s, .int .i64 k, .pointer none, .slice none 0 0] 55)) from ⟨hR, hb, hs, hl, hk, Below.refl _ _, Oth.refl _ _⟩)
    have HL := hide (literal_rk HR.out (ht.below ht.1 hB0) ht.1)
    have HB0 := hide hB0
    have HS := hide hS
    have f1 : ¬ (k : Int) < 0 := by omega
    obtain ⟨L, hL⟩ : ∃ L, s.size = L := ⟨_, rfl⟩
    have f2 : ¬ (L : Int) < (k : Int) := by omega
    have HSZ := hide hsz
    have HIN := hide hk
    clear hR hB0 hb hs hS ht hin hsz hk
    go_enter Tryd.func11, Tryd.ntmps11
    go_wp2_with fail
    refine HL.out.mono ?_
    rintro e w1 ⟨ok, rfl, j, fs, h1, h2, h3, h4⟩
    have HB1 := hide (HB0.out.trans h3)
    have c1 := h1.c1
    have HX := hide h4
    have H1 := hide h1
    have H2 := hide h2
    clear h1 h3 h4 HL HR h2
    cases ok with
    | false =>
      have HW := hide (wrongAt_any (k := j) (HS.out.below HB1.out))
      go_wp2_with fail
      refine HW.out.mono ?_
      rintro e w2 ⟨v, rfl, hf, hb2⟩
      have HF := hide hf
      have HB2 := hide (HB1.out.trans (hb2.mono HB1.out.size))
      clear hf hb2
      go_wp2
      go_ret3
      exact ⟨.inr ⟨k, rfl, HIN.out, .inr ⟨j, v, HX.out, H2.out, rfl, HF.out⟩⟩, HB2.out⟩
    | true =>
      have HT := hide (fun (W : World) (hR : Rdr w.heap.size w.heap.size s j fs W) => hR.string hR.small)
      have K := hide (show Rdr w.heap.size w.heap.size s j fs w1.drew ∧ Below w.heap.size w w1.drew from ⟨H1.out.below (Below.refl _ _).drew, HB1.out.drew⟩)
      have b1 : w.heap.size < w1.heap.size := H1.out.lt
      go_upto_region 6 with fail
      go_region_held3 (fun w' => w'.cell? ⟨w.heap.size, 1, none⟩ = some (.int .i64 j))
        (first
          | exact c1
          | exact hc9
          | go_keep)
        (first | (go_at_call 23; refine (HT.out _ K.out.1).mono ?_; rintro e w2 ⟨rfl, hb2, hc9⟩; have HB2 := hide (K.out.2.trans hb2); clear hb2))
      all_goals
        go_wp2
        go_ret3
        exact ⟨.inr ⟨k, rfl, HIN.out, .inl ⟨fs, j, HX.out, H2.out, rfl⟩⟩, HB2.out⟩
  · have c0 := hS.cell 0 (by omega)
    simp only [sG, List.getD_cons_zero] at c0
    have HIN := hide hin
    clear hS ht hs hb
    by_cases g : at_ < 0
    · go_enter Tryd.func11, Tryd.ntmps11
      go_upto_region 2 with fail
      go_quiet (fail)
      go_wp2
      go_ret3
      exact ⟨.inl ⟨HIN.out, rfl⟩, bel_drewN _ _ _⟩
    · have g2 : (s.size : Int) < at_ := by omega
      clear hsz hin
      go_enter Tryd.func11, Tryd.ntmps11
      go_upto_region 2 with fail
      go_quiet (fail)
      go_wp2
      go_ret3
      exact ⟨.inl ⟨HIN.out, rfl⟩, bel_drewN _ _ _⟩

/-- what Unquote answers -/
def UnqIs (ls : List Int) (a : Nat → Addr) (e : Ending) (w : World) : Prop :=
  (∃ t, xRun .start ls [] 0 = .ok t ls.length ∧ e = .returned (.tuple #[.string (strOfNums t), .nilIface]))
  ∨ (∃ t n v, xRun .start ls [] 0 = .ok t n ∧ n < ls.length ∧ e = .returned (.tuple #[.string ⟨#[]⟩, v]) ∧ FltIs w a v n)
  ∨ (∃ n v, xRun .start ls [] 0 = .bad n ∧ n ≤ ls.length ∧ e = .returned (.tuple #[.string ⟨#[]⟩, v]) ∧ FltIs w a v n)

set_option maxHeartbeats 4000000 in
set_option maxRecDepth 100000 in
theorem unquote_any {w : World} {a : Nat → Addr} {s : ByteArray} {ls : List Int} (hb : uByt ls) (hs : s = strOfNums ls) (hl : ls.length ≤ 140737488351232) (hS : Snt w a) (ht : Tab w) :
    Calls Tryd.prog 15 #[.string s] w fun e w' => UnqIs ls a e w' ∧ Below w.heap.size w w' := by
  have hsz : s.size = ls.length := by rw [hs, strOfNums_size]
  have HC := hide (scan_any (at_ := 0) hb hs hl hS ht)
  have HS := hide hS
  clear hb hs hS ht
  go_enter Tryd.func15, Tryd.ntmps15
  go_wp2_with fail
  refine HC.out.mono ?_
  rintro e w1 ⟨hI, hb1⟩
  have HB1 := hide hb1
  rcases hI with ⟨h0, _⟩ | ⟨k, hk0, hk, ⟨t, n, hx, hn, rfl⟩ | ⟨n, v, hx, hn, rfl, hf⟩⟩
  · exact absurd ⟨Int.le_refl 0, Int.natCast_nonneg _⟩ h0
  · have hk1 : k = 0 := by omega
    subst hk1
    rw [List.drop_zero] at hx
    have HX := hide hx
    clear hx hb1 HC hk0 hk
    by_cases he : n = ls.length
    · have q1 : ((n : Int) != (s.size : Int)) = false := by rw [hsz, he]; simp
      have HE := hide he
      clear he
      obtain ⟨L, hL⟩ : ∃ L, s.size = L := ⟨_, rfl⟩
      rw [hL] at q1
      clear hsz hn hl
      go_wp2
      go_ret2
      exact ⟨.inl ⟨t, by rw [HX.out, HE.out], rfl⟩, HB1.out⟩
    · have q1 : ((n : Int) != (s.size : Int)) = true := by rw [hsz]; simp; omega
      have HN := hide (show n < ls.length by omega)
      have HW := hide (wrongAt_any (k := n) (HS.out.below HB1.out))
      obtain ⟨L, hL⟩ : ∃ L, s.size = L := ⟨_, rfl⟩
      rw [hL] at q1
      clear hsz hn hl he
      go_wp2_with fail
      refine HW.out.mono ?_
      rintro e w2 ⟨v, rfl, hf, hb2⟩
      have HF := hide hf
      have HB2 := hide (HB1.out.trans (hb2.mono HB1.out.size))
      clear hf hb2
      go_wp2
      go_ret2
      exact ⟨.inr (.inl ⟨t, n, v, HX.out, HN.out, rfl, HF.out⟩), HB2.out⟩
  · have hk1 : k = 0 := by omega
    subst hk1
    rw [List.drop_zero] at hx
    have HX := hide hx
    have HF := hide hf
    have HN := hide hn
    obtain ⟨g, rfl, _⟩ := hf
    clear hx hb1 HC hn hsz hl hk0 hk
    go_wp2
    go_ret2
    exact ⟨.inr (.inr ⟨n, _, HX.out, HN.out, rfl, HF.out⟩), HB1.out⟩

end Go.Proofs.YtegokdhmpopggaaDoor
