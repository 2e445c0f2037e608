/- UtfJoins: the walk -/
import Derived.Test.YteejbcknikjkjabURunes
import Derived.Test.YteejbcknikjkjabULives
import Derived.Test.YteejbcknikjkjabUApp
namespace Go.Proofs.Yteejbcknikjkjab
open Go.RowKit
set_option linter.unusedVariables false

theorem runes_gen {s : ByteArray} {es ps t : List Int} {w : World} (hb : uByt es) (hs : s = strOfNums es) (hl : es.length ≤ 17592186044416) (hS : USplit es ps t) :
    Calls Try.prog 6 #[.string s] w fun e w' => ∃ v, e = .returned (.tuple #[v, .bool t.isEmpty]) ∧ Below w.heap.size w w' := by
  by_cases ht : t = []
  · subst ht
    refine (runes_text hb hs hl hS).mono ?_
    rintro e w' ⟨v, rfl, _, h⟩
    exact ⟨v, rfl, h⟩
  · refine (runes_not hb hs hl hS ht).mono ?_
    rintro e w' ⟨rfl, h⟩
    rw [show t.isEmpty = false by cases t; exact absurd rfl ht; rfl]
    exact ⟨_, rfl, h⟩
theorem ufst_join {ea eb : List Int} {i : Nat} (h : i < eb.length) : uFst (ea ++ eb) ((ea.length : Int) + (i : Int)) = uFst eb i := by
  rw [uFst_in h]
  have e : ((ea.length : Int) + (i : Int)) = ((ea.length + i : Nat) : Int) := by omega
  rw [e, uFst_in (by rw [List.length_append]; omega)]
  rw [List.drop_append, List.drop_of_length_le (by omega), List.nil_append, show ea.length + i - ea.length = i by omega]
theorem cells_grown {k : IntKind} {w w' : World} {r : Option Nat} {ao : Option Addr} {xs : List Int} {B : Nat} (h : Cells k w ao xs) (hB : ∀ b off, ao = some ⟨b, off, none⟩ → b < B) (hg : w.grownBy w' r) (hr : ∀ j, r = some j → B ≤ j) : Cells k w' ao xs := by
  intro hp
  obtain ⟨b, off, h1, h2, h3⟩ := h hp
  have hb : w'.heap[b]? = w.heap[b]? := hg.block b h2 (fun e => by have := hr b e.symm; have := hB b off h1; omega)
  refine ⟨b, off, h1, by have := hg.size; omega, fun i hi => ?_⟩
  have := h3 i hi
  unfold World.cell? at this ⊢
  rw [hb]; exact this
theorem own_ge {w : World} {B : Nat} {E : TypeId} {s n : Nat} {v : Value} {xs : List Value} (ho : w.ownsRow B E s v n xs) : ∀ j, v.ownBlock = some j → B ≤ j := by
  intro j ej
  rcases ho.2 with ⟨rfl, _⟩ | ⟨g, cap, cur, rfl, hb, _, _⟩
  · simp [Value.ownBlock] at ej
  · obtain rfl : g = j := by simpa [Value.ownBlock] using ej
    exact hb
theorem own_addr {k : IntKind} {w : World} {B : Nat} {E : TypeId} {v : Value} {zs : List Int} (h : w.ownsRow B E 1 v zs.length (zs.map (Value.int k))) : ∃ ao c, v = .slice ao zs.length c ∧ Cells k w ao zs ∧ (∀ b off, ao = some ⟨b, off, none⟩ → b < w.heap.size) := by
  have hr := owns_reads rfl h
  obtain ⟨ao, c, rfl, _, _, hc⟩ := hr
  refine ⟨ao, c, rfl, hc, fun b off e => ?_⟩
  rcases h.2 with ⟨e2, _⟩ | ⟨g, cap, cur, e2, _, h4, _⟩
  · injection e2 with e3 e4 e5; subst e3; cases e
  · injection e2 with e3 e4 e5; subst e3; cases e; exact (Array.getElem?_eq_some_iff.1 h4).1

theorem own_growsj {w0 w w' : World} {B : Nat} {E : TypeId} {s n : Nat} {v : Value} {xs : List Value} (h : Below B w0 w) (hB : B ≤ w.heap.size) (ho : w.ownsRow B E s v n xs) (hg : w.grownBy w' v.ownBlock) : Below B w0 w' :=
  h.grown hg hB (fun j ej => own_ge ho j ej)

set_option maxRecDepth 100000 in
set_option maxHeartbeats 8000000 in
theorem ujoins_walk {w : World} {s1 s2 : ByteArray} (h1 : s1.size ≤ 1048576) (h2 : s2.size ≤ 1048576) :
    Calls Try.prog 4 #[.string s1, .string s2] w fun e w' => e = .returned (.bool true) ∧ Below w.heap.size w w' := by
  obtain ⟨ea, ha, hle1, hs1⟩ := utxt_of s1
  obtain ⟨eb, hb, hle2, hs2⟩ := utxt_of s2
  have hsz1 := h1
  have hsz2 := h2
  rw [← hle1] at h1
  rw [← hle2] at h2
  have hab := ha.append hb
  have hs3 : s1 ++ s2 = strOfNums (ea ++ eb) := by rw [hs1, hs2, utxt_join]
  have h3 : (ea ++ eb).length ≤ 2097152 := by rw [List.length_append]; omega
  obtain ⟨pa, ta, hSa⟩ := USplit.exists ea.length (Nat.le_refl _) ha
  obtain ⟨pb, tb, hSb⟩ := USplit.exists eb.length (Nat.le_refl _) hb
  by_cases hbad : ta ≠ [] ∨ tb ≠ []
  · obtain ⟨pc, tc, hSc⟩ := USplit.exists (ea ++ eb).length (Nat.le_refl _) hab
    have c1 := hide (fun w => runes_gen (w := w) ha hs1 (by omega) hSa)
    have c2 := hide (fun w => runes_gen (w := w) hb hs2 (by omega) hSb)
    have c3 := hide (fun w => runes_gen (w := w) hab hs3 (by omega) hSc)
    clear ha hb hab hs1 hs2 hs3 hle1 hle2 h1 h2 h3 hSa hSb hSc
    have key : ta.isEmpty = false ∨ ta.isEmpty = true ∧ tb.isEmpty = false := by
      cases ta with
      | nil =>
        cases tb with
        | nil => simp at hbad
        | cons a b => exact .inr ⟨rfl, rfl⟩
      | cons a b => exact .inl rfl
    clear hbad
    rcases key with k1 | ⟨k1, k2⟩
    · rw [k1] at c1
      clear k1
      go_enter Try.func4, Try.ntmps4
      go_wp2_with fail
      refine (c1.out _).mono ?_
      rintro e w1 ⟨v1, rfl, hB1⟩
      go_wp2_with fail
      refine (c2.out _).mono ?_
      rintro e w2 ⟨v2, rfl, hB2⟩
      go_wp2_with fail
      refine (c3.out _).mono ?_
      rintro e w3 ⟨v3, rfl, hB3⟩
      go_wp2_with (go_at_call 14; refine ulives_any.mono ?_; rintro e w5 ⟨rfl, hB5⟩)
      go_ret
      have z1 := hB1.size
      have z2 := hB2.size
      have z3 := hB3.size
      exact ⟨rfl, ((hB1.trans (hB2.mono z1)).trans (hB3.mono (by omega))).trans (hB5.mono (by omega))⟩
    · rw [k1] at c1
      rw [k2] at c2
      clear k1 k2
      go_enter Try.func4, Try.ntmps4
      go_wp2_with fail
      refine (c1.out _).mono ?_
      rintro e w1 ⟨v1, rfl, hB1⟩
      go_wp2_with fail
      refine (c2.out _).mono ?_
      rintro e w2 ⟨v2, rfl, hB2⟩
      go_wp2_with fail
      refine (c3.out _).mono ?_
      rintro e w3 ⟨v3, rfl, hB3⟩
      go_wp2_with (go_at_call 14; refine ulives_any.mono ?_; rintro e w5 ⟨rfl, hB5⟩)
      go_ret
      have z1 := hB1.size
      have z2 := hB2.size
      have z3 := hB3.size
      exact ⟨rfl, ((hB1.trans (hB2.mono z1)).trans (hB3.mono (by omega))).trans (hB5.mono (by omega))⟩
  · have hta : ta = [] := Classical.byContradiction fun h => hbad (.inl h)
    have htb : tb = [] := Classical.byContradiction fun h => hbad (.inr h)
    subst hta htb
    have hSc := hSa.join hSb
    have c1 := hide (fun w => runes_text (w := w) ha hs1 (by omega) hSa)
    have c2 := hide (fun w => runes_text (w := w) hb hs2 (by omega) hSb)
    have c3 := hide (fun w => runes_text (w := w) hab hs3 (by omega) hSc)
    have u1 := hide (fun w => units_text (w := w) ha hs1 (by omega) hSa)
    have u2 := hide (fun w => units_text (w := w) hb hs2 (by omega) hSb)
    have u3 := hide (fun w => units_text (w := w) hab hs3 (by omega) hSc)
    have t1 := hide (fun (i : Int) w => first_any (w := w) (at_ := i) hb hs2 (by omega))
    have t2 := hide (fun (i : Int) w => first_any (w := w) (at_ := i) hab hs3 (by omega))
    have tj := hide (fun (i : Nat) h => ufst_join (ea := ea) (eb := eb) (i := i) h)
    have la : pa.length ≤ 1048576 := by have := uFlat_len pa; have e := hSa.eq; rw [List.append_nil] at e; rw [← e] at this; omega
    have lb : pb.length ≤ 1048576 := by have := uFlat_len pb; have e := hSb.eq; rw [List.append_nil] at e; rw [← e] at this; omega
    rw [List.flatMap_append] at u3
    obtain ⟨us, hus⟩ : ∃ us, pa.flatMap uU = us := ⟨_, rfl⟩
    obtain ⟨vs, hvs⟩ : ∃ vs, pb.flatMap uU = vs := ⟨_, rfl⟩
    have lu : ∀ ps : List Int, (ps.flatMap uU).length ≤ 2 * ps.length := fun ps => by
      induction ps with
      | nil => simp
      | cons x xs ih => rw [List.flatMap_cons, List.length_append, List.length_cons]; have := uU_len x; omega
    have lus : us.length ≤ 2097152 := by have := lu pa; rw [hus] at this; omega
    have lvs : vs.length ≤ 2097152 := by have := lu pb; rw [hvs] at this; omega
    rw [hus] at u1 u3
    rw [hvs] at u2 u3
    obtain ⟨L, hL⟩ : ∃ L, eb.length = L := ⟨_, rfl⟩
    obtain ⟨La, hLa⟩ : ∃ La, ea.length = La := ⟨_, rfl⟩
    have hs1' : s1.size = La := by omega
    have hs2' : s2.size = L := by omega
    rw [hL] at tj h2
    rw [hLa] at tj h1
    have hd : decide (pa ++ pb = pa ++ pb) = true := decide_eq_true rfl
    have hd2 : decide (us ++ vs = us ++ vs) = true := decide_eq_true rfl
    clear hbad ha hb hab hs1 hs2 hs3 hle1 hle2 h3 hSa hSb hSc hus hvs lu hL hLa
    go_enter Try.func4, Try.ntmps4
    go_wp2_with fail
    refine (c1.out _).mono ?_
    rintro e w1 ⟨v1, rfl, hr1, hB1⟩
    go_wp2_with fail
    refine (c2.out _).mono ?_
    rintro e w2 ⟨v2, rfl, hr2, hB2⟩
    go_wp2_with fail
    refine (c3.out _).mono ?_
    rintro e w3 ⟨v3, rfl, hr3, hB3⟩
    have z1 := hB1.size
    have z2 := hB2.size
    have z3 := hB3.size
    obtain ⟨a1, k1, rfl, cl1, bd1⟩ := own_addr hr1
    obtain ⟨a2, k2, rfl, cl2, bd2⟩ := own_addr hr2
    have r3 := hide (owns_reads rfl hr3)
    have C1 := hide ((cl1.below hB2).below hB3)
    have C2 := hide (cl2.below hB3)
    have bd1 := hide (show ∀ b off, a1 = some ⟨b, off, none⟩ → b < w3.heap.size from fun b off e => by have := bd1 b off e; omega)
    have bd2 := hide (show ∀ b off, a2 = some ⟨b, off, none⟩ → b < w3.heap.size from fun b off e => by have := bd2 b off e; omega)
    have HBW := hide ((hB1.trans (hB2.mono z1)).trans (hB3.mono (by omega)))
    clear hr1 hr2 hr3 hB1 hB2 hB3 cl1 cl2 c1 c2 c3 z1 z2 z3
    go_wp2_with (first
      | (at_builtin; refine uwpList_append_ints _ rfl _ _ 22 rfl w3.heap.size 21 .i32 4 Try.underlying22 Try.infoI32 _ 0 [] rfl owns_empty a1 k1 pa rfl (C1.out.below ((Below.refl _ _).alloc (Nat.le_refl _) _)) (by unfold maxLen; omega) (by omega) (by simp) ?_; intro xr4 wr4 ho4 hg4; have HO4r := hide ho4; have K4r := hide (own_growsj ((Below.refl _ _).alloc (Nat.le_refl _) _) (by simp) owns_empty hg4); clear ho4 hg4)
      | (at_builtin; refine uwpList_append_ints _ rfl _ _ 22 rfl w3.heap.size 21 .i32 4 Try.underlying22 Try.infoI32 xr4 _ _ rfl HO4r.out a2 k2 pb rfl (C2.out.below K4r.out) (by unfold maxLen; omega) (by omega) K4r.out.size ?_; intro xr5 wr5 ho5 hg5; have HO5r := hide ho5; have K5r := hide (own_growsj K4r.out K4r.out.size HO4r.out hg5); clear ho5 hg5))
    have s6 := hide (same_runes (owns_reads (by simp) HO5r.out) (r3.out.below K5r.out))
    rw [List.nil_append, decide_eq_true rfl] at s6
    refine s6.out.mono ?_
    rintro e w6 ⟨rfl, hB6⟩
    have H6 := hide ((HBW.out.trans (K5r.out.mono HBW.out.size)).trans (hB6.mono (by have := HBW.out.size; have := K5r.out.size; omega)))
    clear s6 hB6 HBW K4r K5r HO4r HO5r C1 C2 bd1 bd2 r3
    go_wp2_with fail
    refine (u1.out _).mono ?_
    rintro e w7 ⟨y1, rfl, hr1, hB1⟩
    go_wp2_with fail
    refine (u2.out _).mono ?_
    rintro e w8 ⟨y2, rfl, hr2, hB2⟩
    go_wp2_with fail
    refine (u3.out _).mono ?_
    rintro e w9 ⟨y3, rfl, hr3, hB3⟩
    have z1 := hB1.size
    have z2 := hB2.size
    have z3 := hB3.size
    obtain ⟨b1, j1, rfl, cl1, bd1⟩ := own_addr hr1
    obtain ⟨b2, j2, rfl, cl2, bd2⟩ := own_addr hr2
    have r3 := hide (owns_reads rfl hr3)
    have D1 := hide ((cl1.below hB2).below hB3)
    have D2 := hide (cl2.below hB3)
    have HBW := hide (H6.out.trans (((hB1.trans (hB2.mono z1)).trans (hB3.mono (by omega))).mono H6.out.size))
    clear hr1 hr2 hr3 hB1 hB2 hB3 cl1 cl2 u1 u2 u3 z1 z2 z3 bd1 bd2 H6
    go_wp2_with (first
      | (at_builtin; refine uwpList_append_ints _ rfl _ _ 23 rfl w9.heap.size 47 .u16 2 Try.underlying23 Try.infoU16 _ 0 [] rfl owns_empty b1 j1 us rfl (D1.out.below ((Below.refl _ _).alloc (Nat.le_refl _) _)) (by unfold maxLen; omega) (by omega) (by simp) ?_; intro xu4 wu4 ho4 hg4; have HO4u := hide ho4; have K4u := hide (own_growsj ((Below.refl _ _).alloc (Nat.le_refl _) _) (by simp) owns_empty hg4); clear ho4 hg4)
      | (at_builtin; refine uwpList_append_ints _ rfl _ _ 23 rfl w9.heap.size 47 .u16 2 Try.underlying23 Try.infoU16 xu4 _ _ rfl HO4u.out b2 j2 vs rfl (D2.out.below K4u.out) (by unfold maxLen; omega) (by omega) K4u.out.size ?_; intro xu5 wu5 ho5 hg5; have HO5u := hide ho5; have K5u := hide (own_growsj K4u.out K4u.out.size HO4u.out hg5); clear ho5 hg5))
    have s6 := hide (same_units (owns_reads (by simp) HO5u.out) (r3.out.below K5u.out))
    rw [List.nil_append, decide_eq_true rfl] at s6
    refine s6.out.mono ?_
    rintro e w10 ⟨rfl, hB6⟩
    have H6 := hide ((HBW.out.trans (K5u.out.mono HBW.out.size)).trans (hB6.mono (by have := HBW.out.size; have := K5u.out.size; omega)))
    clear s6 hB6 HBW K4u K5u HO4u HO5u D1 D2 r3
    go_wp2_with fail
    go_loopg [17, 18, 19, 20, 21, 22, 23] L (fun c i s18 s19 s20 s21 s22 s23 wr => ∃ k : Nat, k ≤ L ∧ i = .int .i64 k ∧ c = L - k ∧ w10 = wr)
    case atStart => exact ⟨0, by omega, rfl, by omega, rfl⟩
    case round =>
      obtain ⟨k, hk, rfl, hg, hw⟩ := hrel
      subst hw
      by_cases q1 : k < L
      · have p1 : (k : Int) < (L : Int) := by omega
        by_cases q2 : k < 40
        · have p2 : (k : Int) < 40 := by omega
          have t1k := hide (t1.out ((k : Nat) : Int))
          have t2k := hide (t2.out ((La : Int) + (k : Int)))
          rw [tj.out k q1] at t2k
          obtain ⟨⟨p, n⟩, hD⟩ : ∃ D, uFst eb (k : Int) = D := ⟨_, rfl⟩
          rw [hD] at t1k t2k
          have n1 : (p != p) = false := by simp
          have n2 : ((n : Int) != (n : Int)) = false := by simp
          obtain ⟨g, hgg⟩ : ∃ g : Bool, (n != 0) = g := ⟨_, rfl⟩
          simp only [hgg] at t1k t2k
          have n3 : (g != g) = false := by simp
          clear hD hgg
          go_wp2_with fail
          refine (t1k.out _).mono ?_
          rintro e w' ⟨rfl, rfl⟩
          go_wp2_with fail
          refine (t2k.out _).mono ?_
          rintro e w' ⟨rfl, rfl⟩
          go_wp2
          go_roundg (L - (k + 1))
          case measure => omega
          case rel => exact ⟨k + 1, by omega, by simp, rfl, rfl⟩
        · have p2 : decide ((k : Int) < 40) = false := decide_eq_false (by omega)
          go_wp2_with (go_at_call 14; refine ulives_any.mono ?_; rintro e w11 ⟨rfl, hB5⟩)
          go_ret
          exact ⟨rfl, H6.out.trans (hB5.mono H6.out.size)⟩
      · have p1 : ¬ (k : Int) < (L : Int) := by omega
        go_wp2_with (go_at_call 14; refine ulives_any.mono ?_; rintro e w11 ⟨rfl, hB5⟩)
        go_ret
        exact ⟨rfl, H6.out.trans (hB5.mono H6.out.size)⟩

end Go.Proofs.Yteejbcknikjkjab
