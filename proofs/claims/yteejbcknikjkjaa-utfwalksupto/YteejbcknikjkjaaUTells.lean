/- UtfTells: the walk -/
import Derived.Test.YteejbcknikjkjaaUDecd
import Derived.Test.YteejbcknikjkjaaULives
import Derived.Test.YteejbcknikjkjaaURefB
import Derived.Deep.RegionWith
import Derived.Deep.RegionHeld3
namespace Go.Proofs.Yteejbcknikjkjaa
open Go.RowKit Go.Shelf
set_option linter.unusedVariables false
attribute [local go_sem] Oper.semAt_some

theorem run_slice_string_lh {P : Program} (w : World) (t : TypeId) (s : ByteArray) (ht : P.underlying t = some .string) (kl kh : IntKind) (l h : Int) (h0 : 0 ≤ l) (h1 : l ≤ h) (h2 : h ≤ s.size) :
    (Instr.slice t (.string s) (some (.int kl l)) (some (.int kh h)) none).run P w = .ok (.string (s.extract l.toNat h.toNat)) w := by
  have eh : (h.toNat : Int) = h := Int.toNat_of_nonneg (by omega)
  simp [Instr.slice, run_underlying ht, Instr.sliceBounds, run_sliceBound, *, (by omega : 0 ≤ h)]
theorem ufunc_desc : ∃ a b c, Try.prog.underlying 36 = some (.func a b c) := ⟨#[61], #[], false, by kernel_rfl⟩
theorem run_equalIn_func_nil {P : Program} {w : World} (d : Nat) (t : TypeId) {f : Fn} {a c : Array Value} {x y z} (h : P.underlying t = some (.func x y z)) : (Op.equalIn (d + 1) t (.func f a c) .nilFunc).run P w = .ok false w := by
  simp [Op.equalIn, run_underlying h]
theorem run_func_nil {f : Fn} {a c : Array Value} (w : World) : (binOp .eql 36 (.func f a c) .nilFunc).run Try.prog w = .ok (.bool false) w := by
  obtain ⟨x, y, z, h⟩ := ufunc_desc
  have e := run_equalIn_func_nil (w := w) (Op.maxDepth - 1) 36 (f := f) (a := a) (c := c) h
  rw [show Op.maxDepth - 1 + 1 = Op.maxDepth from rfl] at e
  simp [binOp, Op.equal, e]
theorem ubelow_tr {a b c : World} (h : Below a.heap.size a b) (g : Below b.heap.size b c) : Below a.heap.size a c := h.trans (g.mono h.size)
theorem ucell_set {w : World} {a b : Nat} {v u : Value} (hne : a ≠ b) (h : w.cell? ⟨a, 0, none⟩ = some v) : (w.setCell ⟨b, 0, none⟩ u).cell? ⟨a, 0, none⟩ = some v := by
  rw [World.cell?_setCell_other]
  · exact h
  · intro e; cases e; exact hne rfl
theorem uPl_inj {k : Nat} {xs ys : List Int} (h : uPl k xs = uPl k ys) : xs = ys := by
  rw [← uPl_snd k xs, ← uPl_snd k ys, h]
theorem utells_pre {ys : List UPair} {x : UPair} {ds rest : List Int} {p : Int} (h : ys.map Subtype.val = uPl 0 ds) (g : (ys ++ [x]).map Subtype.val <+: uPl 0 (ds ++ p :: rest)) : x.1 = (((uFlat ds).length : Int), p) := by
  rw [List.map_append, h, uPl_append, Nat.zero_add] at g
  have := (List.prefix_append_right_inj _).1 g
  obtain ⟨t, ht⟩ := this
  simp [uPl] at ht
  rw [ht.1]
theorem utells_end {ys : List UPair} {x : UPair} {ds : List Int} (h : ys.map Subtype.val = uPl 0 ds) (g : (ys ++ [x]).map Subtype.val <+: uPl 0 ds) : False := by
  have := g.length_le
  rw [List.length_map, List.length_append, uPl_len] at this
  have e := congrArg List.length h
  rw [List.length_map, uPl_len] at e
  simp at this
  omega

/-- between two rounds -/
def UTI (s : ByteArray) (A PB : Nat) (ps : List Int) (pre : List UPair) (W : World) : Prop :=
  ∃ ds rest, ps = ds ++ rest ∧ pre.map Subtype.val = uPl 0 ds ∧ Boxed W PB 3 (.int .i64 ((uFlat ds).length : Nat)) ∧ Boxed W A 9 (.string s) ∧ Boxed W (A + 1) 4 (.bool false)
theorem uti_own {s : ByteArray} {A PB : Nat} {ps : List Int} : Own (UTI s A PB ps) := fun pre X Y row ⟨ds, rest, h1, h2, h3, h4, h5⟩ hg hr =>
  ⟨ds, rest, h1, h2, boxed_own _ _ (fun _ : Unit => _) () X Y row h3 hg hr, boxed_own _ _ (fun _ : Unit => _) () X Y row h4 hg hr, boxed_own _ _ (fun _ : Unit => _) () X Y row h5 hg hr⟩
theorem ufst_end {es ds t : List Int} (h : USplit es ds t) : uFst es ((uFlat ds).length : Nat) = (0, 0) := by
  by_cases hl : (uFlat ds).length < es.length
  · rw [uFst_in hl]
    have := USplit.at (pre := ds) (rest := []) (by rw [List.append_nil]; exact h)
    rw [this, uFlat_nil, List.nil_append]
    exact uDec_zero h.bad
  · unfold uFst; rw [if_neg (by omega)]
theorem ufst_next {es ds rest t : List Int} {p : Int} (h : USplit es (ds ++ p :: rest) t) : uFst es ((uFlat ds).length : Nat) = (p, (uEnc p).length) := by
  have hs := h.rest.step
  have hl : (uFlat ds).length < es.length := by
    have := congrArg List.length h.eq
    rw [uFlat_append, uFlat_cons, List.length_append, List.length_append, List.length_append] at this
    have := uEnc_pos p
    omega
  rw [uFst_in hl]; exact hs

set_option maxRecDepth 100000 in
set_option maxHeartbeats 8000000 in
theorem utells_walk {w : World} {s : ByteArray} {at_ : Int} (hl : s.size ≤ 140737488351232) :
    Calls Try.prog 6 #[.string s, .int .i64 at_] w fun e w' => e = .returned (.bool true) ∧ Below w.heap.size w w' := by
  obtain ⟨es, hb, hle, hs⟩ := utxt_of s
  rw [← hle] at hl
  obtain ⟨ps, t, hS⟩ := USplit.exists es.length (Nat.le_refl _) hb
  have hsz : s.size = es.length := hle.symm
  have c1 := hide (fun w => bad_any (w := w) hb hs (by omega) hS)
  have c3 := hide (fun (a : Int) w => first_any (w := w) (at_ := a) hb hs (by omega))
  have hst : ∀ (W0 : World) (Bn n₀ : Nat), Boxed W0 Bn 9 (.string s) → SeqStopsK Fence.wide 3 Try.prog 31 #[.pointer (some ⟨Bn, 0, none⟩)] uEncs (UKp Bn n₀) (fun ys => ys.map Subtype.val = uPl 0 ps) (fun pre => pre.map Subtype.val <+: uPl 0 ps) ps.length W0 := fun _ _ _ h3 => all_stops (by omega) hb hs (by omega) hS h3
  have HST := hide hst
  have HS := hide hS
  have hcut := hide (fun (a b : Nat) => show s.extract a b = strOfNums ((es.take b).drop a) from by rw [hs, utxt_cut])
  have HDC := hide (fun (l : List Int) (s' : ByteArray) h1 h2 h3 w => decoded_any (w := w) (s := s') (es := l) h1 h2 h3)
  have HB := hide (fun k => hb.drop k)
  obtain ⟨L, hL⟩ : ∃ L, es.length = L := ⟨_, rfl⟩
  have HL := hide hL
  rw [hL] at hsz hl
  clear hle hs hS hL hst hb
  refine (callsIn_wide (n := 4)).1 ?_
  refine callsIn_of_wp_marks Try.func6 rfl trivial ?_ rfl
  simp only [Try.ntmps6, List.size_toArray, List.length_cons, List.length_nil, Nat.reduceAdd, Nat.reduceSub, Array.replicate_succ, Array.replicate_zero, List.push_toArray, List.append_toArray, List.nil_append, List.cons_append]
  refine wpIn_wide.2 ?_
  by_cases hin : 0 ≤ at_ ∧ at_ < L
  · obtain ⟨k, rfl⟩ : ∃ k : Nat, at_ = k := ⟨at_.toNat, by omega⟩
    have hk : k < L := by omega
    have f1 : (0 : Int) ≤ (k : Int) := by omega
    have f2 : (k : Int) < (L : Int) := by omega
    have c3k := hide (c3.out k)
    rw [uFst_in (by rw [HL.out]; exact hk)] at c3k
    have htk := hide (fun (j : Nat) h1 h2 => uDec_take (HB.out k) (k := j) h1 h2)
    have hcs := hide (fun h => uDec_cases (HB.out k) h)
    have hdl := hide (uDec_le (es.drop k))
    have hN4 : (uDec (es.drop k)).2 ≤ 4 := by
      by_cases h : (uDec (es.drop k)).2 = 0
      · omega
      · obtain ⟨a, b, _⟩ := hcs.out h
        rw [← b]; exact uEnc_le _
    have hNL : (uDec (es.drop k)).2 ≤ L - k := by have := hdl.out; rw [List.length_drop, HL.out] at this; exact this
    have hPr : (uDec (es.drop k)).2 ≠ 0 → 0 ≤ (uDec (es.drop k)).1 ∧ (uDec (es.drop k)).1 ≤ 1114111 := fun h => by
      have := uPt_iff.1 (hcs.out h).1; omega
    have hdr : ∀ j : Nat, j ≤ L - k → (es.drop k).take j = (es.take (k + j)).drop k := fun j hj => by
      rw [List.drop_take, show k + j - k = j by omega]
    obtain ⟨⟨P, N⟩, hD⟩ : ∃ D, uDec (es.drop k) = D := ⟨_, rfl⟩
    rw [hD] at c3k htk hN4 hNL hPr
    simp only at hN4 hNL hPr
    have Hdr := hide hdr
    have HPr := hide hPr
    clear hD hcs hdl hin hdr hPr
    obtain ⟨ok, hok⟩ : ∃ ok : Bool, (N != 0) = ok := ⟨_, rfl⟩
    rw [hok] at c3k
    have Hok := hide hok
    clear hok
    go_wp2_with (go_at_call 9; refine (c3k.out _).mono ?_; rintro e w' ⟨rfl, rfl⟩)
    obtain ⟨W1, hW1⟩ : ∃ x, x = (w.alloc (.cells #[.string s] 9)).alloc (.cells #[.bool false] 4) := ⟨_, rfl⟩
    have bS1 : Boxed W1 w.heap.size 9 (.string s) := by rw [hW1]; exact (Boxed.new w 9 (.string s)).alloc _
    have bR1 : Boxed W1 (w.heap.size + 1) 4 (.bool false) := by
      have := Boxed.new (w.alloc (.cells #[.string s] 9)) 4 (.bool false)
      rw [World.size_alloc] at this; rw [hW1]; exact this
    have hB1 : Below w.heap.size w W1 := by rw [hW1]; exact ((Below.refl _ w).alloc (Nat.le_refl _) _).alloc (by simp) _
    have hz1 : W1.heap.size = w.heap.size + 1 + 1 := by rw [hW1]; simp
    rw [← hW1]
    clear hW1
    go_loopw [8, 9, 10, 11] (fun any i s10 s11 wr => ∃ (j : Nat) (b : Bool), 1 ≤ j ∧ j ≤ 5 ∧ any = .bool b ∧ i = .int .i64 j ∧ Hid (b = decide (N ≠ 0 ∧ N < j)) ∧ Below W1.heap.size W1 wr) (fun _ i _ _ _ => 5 - (intOf i).toNat)
    case atStart => exact ⟨1, false, by omega, by omega, rfl, rfl, hide (by rw [eq_comm, decide_eq_false_iff_not]; omega), Below.refl _ _⟩
    case round =>
      obtain ⟨j, b, hj1, hj5, rfl, rfl, hbj, hbr⟩ := hrel
      have bS : Boxed wr w.heap.size 9 (.string s) := (hbr.block _ bS1.lt).trans bS1
      have hcS := bS.cell
      have bR : Boxed wr (w.heap.size + 1) 4 (.bool false) := (hbr.block _ bR1.lt).trans bR1
      have hBw : Below w.heap.size w wr := hB1.trans (hbr.mono (by omega))
      have hzr := hbr.size
      have HBS := hide bS
      have HBR := hide bR
      have HBw := hide hBw
      clear bS bR hBw
      by_cases hj : j ≤ 4 ∧ k + j ≤ L
      · obtain ⟨hj4, hjL⟩ := hj
        have q1 : (j : Int) ≤ 4 := by omega
        have q2 : (k : Int) + (j : Int) ≤ (L : Int) := by omega
        have hlen : ((es.drop k).take j).length = j := by rw [List.length_take, List.length_drop, HL.out]; omega
        have HDk := hide (HDC.out ((es.drop k).take j) (s.extract k (k + j)) (fun x hx => HB.out k x (List.mem_of_mem_take hx)) (by rw [hcut.out, Hdr.out j (by omega)]) (by rw [hlen]; omega))
        have hsl : ∀ w, (Instr.slice 9 (.string s) (some (.int .i64 k)) (some (.int .i64 ((k : Int) + (j : Int)))) none).run Try.prog w = .ok (.string (s.extract k (k + j))) w := fun w => by
          have := run_slice_string_lh (P := Try.prog) w 9 s Try.underlying9 .i64 .i64 k ((k : Int) + (j : Int)) (by omega) (by omega) (by omega)
          rw [show ((k : Int) + (j : Int)).toNat = k + j by omega] at this
          simpa using this
        obtain ⟨t1, t2⟩ := htk.out j (by omega) (by rw [List.length_drop, HL.out]; omega)
        rw [hlen] at HDk
        obtain ⟨⟨P', N'⟩, hD'⟩ : ∃ D, uDec ((es.drop k).take j) = D := ⟨_, rfl⟩
        rw [hD'] at HDk t1 t2
        try simp only at HDk
        try simp only at t1
        try simp only at t2
        clear hD' hlen
        by_cases hNj : N = j
        · have hN' := t1.2 hNj
          have hP' := t2 hNj
          have e1 : (N' == j) = true := by rw [hN']; simp
          rw [e1] at HDk
          have hokt : ok = true := by rw [← Hok.out]; simp; omega
          have hpr := HPr.out (by omega)
          have q6 : IntKind.i64.wrap P = P := by simp [IntKind.wrap, IntKind.bits, IntKind.signed]; omega
          have q5 : ((N : Int) != (j : Int)) = false := by simp; omega
          have hb0 : b = false := by rw [hbj.out]; simp; omega
          have HDI := hide (show ∀ x, DecIs (P', N') j x → x = P from fun x h => (h hN').trans hP')
          subst hokt hb0
          have HNj := hide hNj
          clear t1 t2 hN' hP' e1 hNj
          go_wp2_with fail
          refine (HDk.out _).mono ?_
          rintro e w2 ⟨x, rfl, hdi, hB2⟩
          have hxP := HDI.out x hdi
          subst hxP
          have q7 : (x != x) = false := by simp
          clear hdi
          go_wp2
          go_roundw
          case rel => exact ⟨j + 1, true, by omega, by omega, rfl, by simp, hide (by rw [eq_comm, decide_eq_true_iff]; have := HNj.out; omega), hbr.trans (hB2.mono hzr)⟩
          case measure => simp [intOf]; omega
        · have e1 : (N' == j) = false := by rw [beq_eq_false_iff_ne]; exact fun h => hNj (t1.1 h)
          rw [e1] at HDk
          have hbn := hide (show b = decide (N ≠ 0 ∧ N < j + 1) by rw [hbj.out, decide_eq_decide]; omega)
          clear t1 t2 e1
          cases b
          all_goals
            go_wp2_with fail
            refine (HDk.out _).mono ?_
            rintro e w2 ⟨x, rfl, hdi, hB2⟩
            clear hdi
            go_wp2
            go_roundw
            case rel => exact ⟨j + 1, _, by omega, by omega, rfl, by simp, hbn, hbr.trans (hB2.mono hzr)⟩
            case measure => simp [intOf]; omega
      · have hbok : b = ok := by
          rw [hbj.out, ← Hok.out]
          rw [Bool.eq_iff_iff]
          simp
          omega
        have q9 : (b != ok) = false := by rw [hbok]; simp
        have HBR2 := HBR
        obtain ⟨W2, hW2⟩ : ∃ x, x = wr := ⟨_, rfl⟩
        subst hW2
        clear htk Hdr HPr HDC c3k hbj hbr bS1 bR1 hB1 hz1 hzr hbok
        by_cases hj4 : j ≤ 4
        · have q1 : (j : Int) ≤ 4 := by omega
          have q2 : decide ((k : Int) + (j : Int) ≤ (L : Int)) = false := decide_eq_false (by omega)
          have hlt1 : w.heap.size < W2.heap.size := HBS.out.lt
          have hlt2 : w.heap.size + 1 < W2.heap.size := HBR.out.lt
          clear HBR2
          cases b <;> cases ok
          · clear q9
            have hfn : ∀ (w : World) f a c, (binOp .eql 36 (.func f a c) .nilFunc).run Try.prog w = .ok (.bool false) w := fun w f a c => run_func_nil w
            go_wp2_with (go_at_call 16; refine all_any.mono ?_; rintro e w' ⟨rfl, rfl⟩)
            have bP := (Boxed.new (W2) 3 (.int .i64 0)).alloc (.cells #[.string s] 9)
            have bN := Boxed.new ((W2).alloc (.cells #[.int .i64 0] 3)) 9 (.string s)
            have bS := (HBS.out.alloc (.cells #[.int .i64 0] 3)).alloc (.cells #[.string s] 9)
            have bR := (HBR.out.alloc (.cells #[.int .i64 0] 3)).alloc (.cells #[.string s] 9)
            have hBW := (HBw.out.alloc (by have := HBw.out.size; omega) (.cells #[.int .i64 0] 3)).alloc (by have := HBw.out.size; simp at this ⊢; omega) (.cells #[.string s] 9)
            simp only [World.size_alloc] at bP bN
            have hpb : w.heap.size + 1 < W2.heap.size := by have := HBR.out.lt; simp at this ⊢; try omega
            go_wp2_with fail
            refine (wpIn_wide (n := 4)).1 ?_
            refine' wpIn_rangeFunc_ownG rfl (by omega) (gf := 31) (lb := #[.pointer (some ⟨W2.heap.size + 1, 0, none⟩)]) (by simp [go_sem]) trivial (enters_of Try.func31 (by kernel_rfl) rfl)
              (HST.out _ _ w.heap.size bN) ukp_t (ukp_b (by simp; try omega) (by simp; try omega)) (Below.refl _ _) (fun _ => rfl)
              (fun pre W => UTI s w.heap.size (W2.heap.size) ps pre W ∧ Below w.heap.size w W)
              (fun c pre W => c = .ret ∧ ¬ pre.map Subtype.val <+: uPl 0 ps)
              (OwnFrom.and (Own.from uti_own _) (ownFrom_below (Nat.le_refl _) (by simp; try omega)))
              (fun _ _ _ _ _ hs _ _ => hs)
              ⟨⟨[], ps, rfl, rfl, bP, bS, bR⟩, hBW⟩ _ _ _ _ _
            case refine'_2 =>
              intro l x W K hK
              gi_wp2
              exact hK
            case refine'_3 =>
              rintro l pre x W ⟨⟨ds, rest, hps, hpre, bP, bS, bR⟩, hBW⟩ hlt
              have hSp : USplit es (ds ++ rest) t := by rw [← hps]; exact HS.out
              have hcP := bP.cell
              have hcS := bS.cell
              have hfP := bP.frozen
              have hfR := bR.frozen
              have hcR := bR.cell
              obtain ⟨m, hm⟩ : ∃ m, (uFlat ds).length = m := ⟨_, rfl⟩
              have HP := hide bP
              have HS2 := hide bS
              have HR := hide bR
              have HBW := hide hBW
              have Hpre := hide hpre
              have Hps := hide hps
              rw [hm] at hcP
              cases rest with
              | nil =>
                have c3m := hide (c3.out ((m : Nat) : Int))
                rw [← hm, ufst_end (by rw [List.append_nil] at hSp; exact hSp), hm] at c3m
                have hno : ¬ (pre ++ [x]).map Subtype.val <+: uPl 0 ps := fun g => utells_end hpre (by rw [hps, List.append_nil] at g; exact g)
                have HNO := hide hno
                clear bP bS bR hBW hpre hps hSp hno hm
                obtain ⟨⟨x1, x2⟩, hx⟩ := x
                simp only
                gi_wp2_with fail
                refine ⟨trivial, (CallsIn.inRound l (callsIn_wide.2 (c3m.out _))).mono ?_⟩
                rintro e w' ⟨rfl, rfl⟩
                gi_wp2
                exact ⟨(KeepsOthers.setCell _ _ _).from _, rfl, HNO.out⟩
              | cons p rest =>
                have c3m := hide (c3.out ((m : Nat) : Int))
                rw [← hm, ufst_next hSp, hm] at c3m
                have hpos := uEnc_pos p
                have hpx := hide (fun g => utells_pre (ys := pre) (x := x) (ds := ds) (p := p) (rest := rest) hpre g)
                rw [hm] at hpx
                have hml : (m : Int) + ((uEnc p).length : Int) ≤ 9223372036854775807 := by
                  have := congrArg List.length hSp.eq
                  rw [HL.out, uFlat_append, uFlat_cons, List.length_append, List.length_append, List.length_append, hm] at this
                  omega
                have Hfs := hide (show (uFlat (ds ++ [p])).length = m + (uEnc p).length by rw [uFlat_snoc, List.length_append, hm])
                have Hpl := hide (show uPl 0 (ds ++ [p]) = uPl 0 ds ++ [((m : Int), p)] by rw [uPl_append, hm]; simp [uPl])
                obtain ⟨n, hn⟩ : ∃ n, (uEnc p).length = n := ⟨_, rfl⟩
                rw [hn] at c3m hpos hml Hfs
                have q1 : ((n != 0) : Bool) = true := by simp; omega
                clear bP bS bR hBW hpre hps hSp hn
                obtain ⟨⟨x1, x2⟩, hx⟩ := x
                simp only at hpx ⊢
                by_cases h1 : x1 = (m : Int)
                · have q2 : (x1 != (m : Int)) = false := by simp [h1]
                  by_cases h2 : p = x2
                  · have q3 : (p != x2) = false := by simp [h2]
                    have H1 := hide h1
                    have H2 := hide h2
                    clear h1 h2 hpx
                    gi_wp2_with fail
                    refine ⟨trivial, (CallsIn.inRound l (callsIn_wide.2 (c3m.out _))).mono ?_⟩
                    rintro e w' ⟨rfl, rfl⟩
                    gi_wp2
                    refine ⟨(KeepsOthers.setCell _ _ _).from _, ⟨(Below.refl _ _).setCell (p := ⟨W2.heap.size, 0, none⟩) (show w.heap.size ≤ W2.heap.size by omega) _, fun v h => h.other (by omega) _⟩, ⟨ds ++ [p], rest, by rw [Hps.out]; simp, ?_, ?_, HS2.out.other (by omega) _, HR.out.other (by omega) _⟩, HBW.out.setCell (p := ⟨W2.heap.size, 0, none⟩) (show w.heap.size ≤ W2.heap.size by omega) _⟩
                    · rw [List.map_append, Hpre.out, Hpl.out]
                      simp [H1.out, H2.out]
                    · rw [Hfs.out]
                      have := HP.out.set (.int .i64 ((m : Int) + (n : Int)))
                      simpa using this
                  · have q3 : (p != x2) = true := by simp [h2]
                    have HNO := hide (show ¬ (pre ++ [(⟨(x1, x2), hx⟩ : UPair)]).map Subtype.val <+: uPl 0 ps from fun g => by
                      have := hpx.out (by rw [Hps.out] at g; exact g)
                      simp at this; exact h2 this.2.symm)
                    have H1 := hide h1
                    clear h1 h2 hpx
                    gi_wp2_with fail
                    refine ⟨trivial, (CallsIn.inRound l (callsIn_wide.2 (c3m.out _))).mono ?_⟩
                    rintro e w' ⟨rfl, rfl⟩
                    gi_wp2
                    exact ⟨(KeepsOthers.setCell _ _ _).from _, rfl, HNO.out⟩
                · have q2 : (x1 != (m : Int)) = true := by simp [h1]
                  have HNO := hide (show ¬ (pre ++ [(⟨(x1, x2), hx⟩ : UPair)]).map Subtype.val <+: uPl 0 ps from fun g => by
                    have := hpx.out (by rw [Hps.out] at g; exact g)
                    simp at this; exact h1 this.1)
                  clear h1 hpx
                  gi_wp2_with fail
                  refine ⟨trivial, (CallsIn.inRound l (callsIn_wide.2 (c3m.out _))).mono ?_⟩
                  rintro e w' ⟨rfl, rfl⟩
                  gi_wp2
                  exact ⟨(KeepsOthers.setCell _ _ _).from _, rfl, HNO.out⟩
            case refine'_4 =>
              rintro D ys W hD hys ⟨⟨ds, rest, hps, hpre, bP, bS, bR⟩, hBW⟩ hK
              have hds : ds = ps := uPl_inj (hpre.symm.trans hys)
              subst hds
              have c3m := hide (c3.out (((uFlat ds).length : Nat) : Int))
              rw [ufst_end HS.out] at c3m
              have hcP := bP.cell
              have hcS := bS.cell
              have hcR := bR.cell
              have hfR := bR.frozen
              have hsz3 := bP.lt
              have hsz4 := bS.lt
              have HR := hide bR
              have HBW := hide hBW
              obtain ⟨m, hm⟩ : ∃ m, (uFlat ds).length = m := ⟨_, rfl⟩
              rw [hm] at hcP c3m
              have c1m := c1
              rw [hm] at c1m
              have q1 : ((m : Int) == (m : Int)) = true := by simp
              clear bP bS bR hBW hpre hps hys hm
              go_wp2_with (go_at_call 9; refine (c3m.out _).mono ?_; rintro e w' ⟨rfl, rfl⟩)
              have hsz2 := HR.out.lt
              have K : Below w'.heap.size w' w'.drew := (Below.refl _ _).drew
              go_region_held3 (fun u => u.cell? ⟨w.heap.size, 0, none⟩ = some (.string s) ∧ u.cell? ⟨W2.heap.size, 0, none⟩ = some (.int .i64 (m : Int)))
                (first
                  | with_reducible exact ⟨(K.cell (p := ⟨w.heap.size, 0, none⟩) hsz4).trans hcS, (K.cell (p := ⟨W2.heap.size, 0, none⟩) hsz3).trans hcP⟩
                  | with_reducible exact ⟨ucell_set (by omega) ((K.cell (p := ⟨w.heap.size, 0, none⟩) hsz4).trans hcS), ucell_set (by omega) ((K.cell (p := ⟨W2.heap.size, 0, none⟩) hsz3).trans hcP)⟩
                  | go_keep)
                (first
                  | (go_at_call 7; (with_reducible refine (c1m.out _).mono ?_); rintro e w2 ⟨rfl, hb⟩; replace K := ubelow_tr K hb; clear hb)
                  | (go_at_call 10; (with_reducible refine ulives_any.mono ?_); rintro e w3 ⟨rfl, hb⟩; replace K := ubelow_tr K hb; clear hb; have hcR3 := (K.cell (p := ⟨w.heap.size + 1, 0, none⟩) hsz2).trans hcR; have hfR3 := (K.frozen (p := ⟨w.heap.size + 1, 0, none⟩) hsz2).trans hfR))
              go_wp2
              have hDl : D < w'.heap.size := (Array.getElem?_eq_some_iff.1 hK).1
              have hK3 := (K.block D hDl).trans hK
              have hK' := (KeepsOthers.setCell w3 ⟨w.heap.size + 1, 0, none⟩ (.bool true)).same D _ hK3 rfl
              refine ⟨by simp, .inl ⟨_, _, rfl, run_takeDeferred hK', ?_⟩⟩
              have hc5 := cell_kept (World.cell?_setCell_same' w3 ⟨w.heap.size + 1, 0, none⟩ (.bool true) (by rw [hcR3]; rfl)) (grownBy_putObj' _ D (.deferred none)) (fun r e => by cases e; exact ⟨_, hK', rfl⟩)
              have hBB := ((HBW.out.trans (K.mono HBW.out.size)).setCell (p := ⟨w.heap.size + 1, 0, none⟩) (show w.heap.size ≤ w.heap.size + 1 by omega) (.bool true)).trans (belowK_b (w := w) (Nat.le_refl _) _ D _ (.deferred none) (by have := HBw.out.size; simp at hD this; omega) hK' rfl rfl)
              refine ⟨.bool true, ?_, rfl, hBB⟩
              simp [results, Try.f6, go_sem, hc5]
            case refine'_5 =>
              rintro D c pre W _ hpx ⟨_, hno⟩ _
              exact absurd hpx hno
          · exact absurd q9 (by decide)
          · exact absurd q9 (by decide)
          · clear q9
            have hfn : ∀ (w : World) f a c, (binOp .eql 36 (.func f a c) .nilFunc).run Try.prog w = .ok (.bool false) w := fun w f a c => run_func_nil w
            go_wp2_with (go_at_call 16; refine all_any.mono ?_; rintro e w' ⟨rfl, rfl⟩)
            have bP := (Boxed.new (W2) 3 (.int .i64 0)).alloc (.cells #[.string s] 9)
            have bN := Boxed.new ((W2).alloc (.cells #[.int .i64 0] 3)) 9 (.string s)
            have bS := (HBS.out.alloc (.cells #[.int .i64 0] 3)).alloc (.cells #[.string s] 9)
            have bR := (HBR.out.alloc (.cells #[.int .i64 0] 3)).alloc (.cells #[.string s] 9)
            have hBW := (HBw.out.alloc (by have := HBw.out.size; omega) (.cells #[.int .i64 0] 3)).alloc (by have := HBw.out.size; simp at this ⊢; omega) (.cells #[.string s] 9)
            simp only [World.size_alloc] at bP bN
            have hpb : w.heap.size + 1 < W2.heap.size := by have := HBR.out.lt; simp at this ⊢; try omega
            go_wp2_with fail
            refine (wpIn_wide (n := 4)).1 ?_
            refine' wpIn_rangeFunc_ownG rfl (by omega) (gf := 31) (lb := #[.pointer (some ⟨W2.heap.size + 1, 0, none⟩)]) (by simp [go_sem]) trivial (enters_of Try.func31 (by kernel_rfl) rfl)
              (HST.out _ _ w.heap.size bN) ukp_t (ukp_b (by simp; try omega) (by simp; try omega)) (Below.refl _ _) (fun _ => rfl)
              (fun pre W => UTI s w.heap.size (W2.heap.size) ps pre W ∧ Below w.heap.size w W)
              (fun c pre W => c = .ret ∧ ¬ pre.map Subtype.val <+: uPl 0 ps)
              (OwnFrom.and (Own.from uti_own _) (ownFrom_below (Nat.le_refl _) (by simp; try omega)))
              (fun _ _ _ _ _ hs _ _ => hs)
              ⟨⟨[], ps, rfl, rfl, bP, bS, bR⟩, hBW⟩ _ _ _ _ _
            case refine'_2 =>
              intro l x W K hK
              gi_wp2
              exact hK
            case refine'_3 =>
              rintro l pre x W ⟨⟨ds, rest, hps, hpre, bP, bS, bR⟩, hBW⟩ hlt
              have hSp : USplit es (ds ++ rest) t := by rw [← hps]; exact HS.out
              have hcP := bP.cell
              have hcS := bS.cell
              have hfP := bP.frozen
              have hfR := bR.frozen
              have hcR := bR.cell
              obtain ⟨m, hm⟩ : ∃ m, (uFlat ds).length = m := ⟨_, rfl⟩
              have HP := hide bP
              have HS2 := hide bS
              have HR := hide bR
              have HBW := hide hBW
              have Hpre := hide hpre
              have Hps := hide hps
              rw [hm] at hcP
              cases rest with
              | nil =>
                have c3m := hide (c3.out ((m : Nat) : Int))
                rw [← hm, ufst_end (by rw [List.append_nil] at hSp; exact hSp), hm] at c3m
                have hno : ¬ (pre ++ [x]).map Subtype.val <+: uPl 0 ps := fun g => utells_end hpre (by rw [hps, List.append_nil] at g; exact g)
                have HNO := hide hno
                clear bP bS bR hBW hpre hps hSp hno hm
                obtain ⟨⟨x1, x2⟩, hx⟩ := x
                simp only
                gi_wp2_with fail
                refine ⟨trivial, (CallsIn.inRound l (callsIn_wide.2 (c3m.out _))).mono ?_⟩
                rintro e w' ⟨rfl, rfl⟩
                gi_wp2
                exact ⟨(KeepsOthers.setCell _ _ _).from _, rfl, HNO.out⟩
              | cons p rest =>
                have c3m := hide (c3.out ((m : Nat) : Int))
                rw [← hm, ufst_next hSp, hm] at c3m
                have hpos := uEnc_pos p
                have hpx := hide (fun g => utells_pre (ys := pre) (x := x) (ds := ds) (p := p) (rest := rest) hpre g)
                rw [hm] at hpx
                have hml : (m : Int) + ((uEnc p).length : Int) ≤ 9223372036854775807 := by
                  have := congrArg List.length hSp.eq
                  rw [HL.out, uFlat_append, uFlat_cons, List.length_append, List.length_append, List.length_append, hm] at this
                  omega
                have Hfs := hide (show (uFlat (ds ++ [p])).length = m + (uEnc p).length by rw [uFlat_snoc, List.length_append, hm])
                have Hpl := hide (show uPl 0 (ds ++ [p]) = uPl 0 ds ++ [((m : Int), p)] by rw [uPl_append, hm]; simp [uPl])
                obtain ⟨n, hn⟩ : ∃ n, (uEnc p).length = n := ⟨_, rfl⟩
                rw [hn] at c3m hpos hml Hfs
                have q1 : ((n != 0) : Bool) = true := by simp; omega
                clear bP bS bR hBW hpre hps hSp hn
                obtain ⟨⟨x1, x2⟩, hx⟩ := x
                simp only at hpx ⊢
                by_cases h1 : x1 = (m : Int)
                · have q2 : (x1 != (m : Int)) = false := by simp [h1]
                  by_cases h2 : p = x2
                  · have q3 : (p != x2) = false := by simp [h2]
                    have H1 := hide h1
                    have H2 := hide h2
                    clear h1 h2 hpx
                    gi_wp2_with fail
                    refine ⟨trivial, (CallsIn.inRound l (callsIn_wide.2 (c3m.out _))).mono ?_⟩
                    rintro e w' ⟨rfl, rfl⟩
                    gi_wp2
                    refine ⟨(KeepsOthers.setCell _ _ _).from _, ⟨(Below.refl _ _).setCell (p := ⟨W2.heap.size, 0, none⟩) (show w.heap.size ≤ W2.heap.size by omega) _, fun v h => h.other (by omega) _⟩, ⟨ds ++ [p], rest, by rw [Hps.out]; simp, ?_, ?_, HS2.out.other (by omega) _, HR.out.other (by omega) _⟩, HBW.out.setCell (p := ⟨W2.heap.size, 0, none⟩) (show w.heap.size ≤ W2.heap.size by omega) _⟩
                    · rw [List.map_append, Hpre.out, Hpl.out]
                      simp [H1.out, H2.out]
                    · rw [Hfs.out]
                      have := HP.out.set (.int .i64 ((m : Int) + (n : Int)))
                      simpa using this
                  · have q3 : (p != x2) = true := by simp [h2]
                    have HNO := hide (show ¬ (pre ++ [(⟨(x1, x2), hx⟩ : UPair)]).map Subtype.val <+: uPl 0 ps from fun g => by
                      have := hpx.out (by rw [Hps.out] at g; exact g)
                      simp at this; exact h2 this.2.symm)
                    have H1 := hide h1
                    clear h1 h2 hpx
                    gi_wp2_with fail
                    refine ⟨trivial, (CallsIn.inRound l (callsIn_wide.2 (c3m.out _))).mono ?_⟩
                    rintro e w' ⟨rfl, rfl⟩
                    gi_wp2
                    exact ⟨(KeepsOthers.setCell _ _ _).from _, rfl, HNO.out⟩
                · have q2 : (x1 != (m : Int)) = true := by simp [h1]
                  have HNO := hide (show ¬ (pre ++ [(⟨(x1, x2), hx⟩ : UPair)]).map Subtype.val <+: uPl 0 ps from fun g => by
                    have := hpx.out (by rw [Hps.out] at g; exact g)
                    simp at this; exact h1 this.1)
                  clear h1 hpx
                  gi_wp2_with fail
                  refine ⟨trivial, (CallsIn.inRound l (callsIn_wide.2 (c3m.out _))).mono ?_⟩
                  rintro e w' ⟨rfl, rfl⟩
                  gi_wp2
                  exact ⟨(KeepsOthers.setCell _ _ _).from _, rfl, HNO.out⟩
            case refine'_4 =>
              rintro D ys W hD hys ⟨⟨ds, rest, hps, hpre, bP, bS, bR⟩, hBW⟩ hK
              have hds : ds = ps := uPl_inj (hpre.symm.trans hys)
              subst hds
              have c3m := hide (c3.out (((uFlat ds).length : Nat) : Int))
              rw [ufst_end HS.out] at c3m
              have hcP := bP.cell
              have hcS := bS.cell
              have hcR := bR.cell
              have hfR := bR.frozen
              have hsz3 := bP.lt
              have hsz4 := bS.lt
              have HR := hide bR
              have HBW := hide hBW
              obtain ⟨m, hm⟩ : ∃ m, (uFlat ds).length = m := ⟨_, rfl⟩
              rw [hm] at hcP c3m
              have c1m := c1
              rw [hm] at c1m
              have q1 : ((m : Int) == (m : Int)) = true := by simp
              clear bP bS bR hBW hpre hps hys hm
              go_wp2_with (go_at_call 9; refine (c3m.out _).mono ?_; rintro e w' ⟨rfl, rfl⟩)
              have hsz2 := HR.out.lt
              have K : Below w'.heap.size w' w'.drew := (Below.refl _ _).drew
              go_region_held3 (fun u => u.cell? ⟨w.heap.size, 0, none⟩ = some (.string s) ∧ u.cell? ⟨W2.heap.size, 0, none⟩ = some (.int .i64 (m : Int)))
                (first
                  | with_reducible exact ⟨(K.cell (p := ⟨w.heap.size, 0, none⟩) hsz4).trans hcS, (K.cell (p := ⟨W2.heap.size, 0, none⟩) hsz3).trans hcP⟩
                  | with_reducible exact ⟨ucell_set (by omega) ((K.cell (p := ⟨w.heap.size, 0, none⟩) hsz4).trans hcS), ucell_set (by omega) ((K.cell (p := ⟨W2.heap.size, 0, none⟩) hsz3).trans hcP)⟩
                  | go_keep)
                (first
                  | (go_at_call 7; (with_reducible refine (c1m.out _).mono ?_); rintro e w2 ⟨rfl, hb⟩; replace K := ubelow_tr K hb; clear hb)
                  | (go_at_call 10; (with_reducible refine ulives_any.mono ?_); rintro e w3 ⟨rfl, hb⟩; replace K := ubelow_tr K hb; clear hb; have hcR3 := (K.cell (p := ⟨w.heap.size + 1, 0, none⟩) hsz2).trans hcR; have hfR3 := (K.frozen (p := ⟨w.heap.size + 1, 0, none⟩) hsz2).trans hfR))
              go_wp2
              have hDl : D < w'.heap.size := (Array.getElem?_eq_some_iff.1 hK).1
              have hK3 := (K.block D hDl).trans hK
              have hK' := (KeepsOthers.setCell w3 ⟨w.heap.size + 1, 0, none⟩ (.bool true)).same D _ hK3 rfl
              refine ⟨by simp, .inl ⟨_, _, rfl, run_takeDeferred hK', ?_⟩⟩
              have hc5 := cell_kept (World.cell?_setCell_same' w3 ⟨w.heap.size + 1, 0, none⟩ (.bool true) (by rw [hcR3]; rfl)) (grownBy_putObj' _ D (.deferred none)) (fun r e => by cases e; exact ⟨_, hK', rfl⟩)
              have hBB := ((HBW.out.trans (K.mono HBW.out.size)).setCell (p := ⟨w.heap.size + 1, 0, none⟩) (show w.heap.size ≤ w.heap.size + 1 by omega) (.bool true)).trans (belowK_b (w := w) (Nat.le_refl _) _ D _ (.deferred none) (by have := HBw.out.size; simp at hD this; omega) hK' rfl rfl)
              refine ⟨.bool true, ?_, rfl, hBB⟩
              simp [results, Try.f6, go_sem, hc5]
            case refine'_5 =>
              rintro D c pre W _ hpx ⟨_, hno⟩ _
              exact absurd hpx hno
        · have q1 : ¬ (j : Int) ≤ 4 := by omega
          have hlt1 : w.heap.size < W2.heap.size := HBS.out.lt
          have hlt2 : w.heap.size + 1 < W2.heap.size := HBR.out.lt
          clear HBR2
          cases b <;> cases ok
          · clear q9
            have hfn : ∀ (w : World) f a c, (binOp .eql 36 (.func f a c) .nilFunc).run Try.prog w = .ok (.bool false) w := fun w f a c => run_func_nil w
            go_wp2_with (go_at_call 16; refine all_any.mono ?_; rintro e w' ⟨rfl, rfl⟩)
            have bP := (Boxed.new (W2) 3 (.int .i64 0)).alloc (.cells #[.string s] 9)
            have bN := Boxed.new ((W2).alloc (.cells #[.int .i64 0] 3)) 9 (.string s)
            have bS := (HBS.out.alloc (.cells #[.int .i64 0] 3)).alloc (.cells #[.string s] 9)
            have bR := (HBR.out.alloc (.cells #[.int .i64 0] 3)).alloc (.cells #[.string s] 9)
            have hBW := (HBw.out.alloc (by have := HBw.out.size; omega) (.cells #[.int .i64 0] 3)).alloc (by have := HBw.out.size; simp at this ⊢; omega) (.cells #[.string s] 9)
            simp only [World.size_alloc] at bP bN
            have hpb : w.heap.size + 1 < W2.heap.size := by have := HBR.out.lt; simp at this ⊢; try omega
            go_wp2_with fail
            refine (wpIn_wide (n := 4)).1 ?_
            refine' wpIn_rangeFunc_ownG rfl (by omega) (gf := 31) (lb := #[.pointer (some ⟨W2.heap.size + 1, 0, none⟩)]) (by simp [go_sem]) trivial (enters_of Try.func31 (by kernel_rfl) rfl)
              (HST.out _ _ w.heap.size bN) ukp_t (ukp_b (by simp; try omega) (by simp; try omega)) (Below.refl _ _) (fun _ => rfl)
              (fun pre W => UTI s w.heap.size (W2.heap.size) ps pre W ∧ Below w.heap.size w W)
              (fun c pre W => c = .ret ∧ ¬ pre.map Subtype.val <+: uPl 0 ps)
              (OwnFrom.and (Own.from uti_own _) (ownFrom_below (Nat.le_refl _) (by simp; try omega)))
              (fun _ _ _ _ _ hs _ _ => hs)
              ⟨⟨[], ps, rfl, rfl, bP, bS, bR⟩, hBW⟩ _ _ _ _ _
            case refine'_2 =>
              intro l x W K hK
              gi_wp2
              exact hK
            case refine'_3 =>
              rintro l pre x W ⟨⟨ds, rest, hps, hpre, bP, bS, bR⟩, hBW⟩ hlt
              have hSp : USplit es (ds ++ rest) t := by rw [← hps]; exact HS.out
              have hcP := bP.cell
              have hcS := bS.cell
              have hfP := bP.frozen
              have hfR := bR.frozen
              have hcR := bR.cell
              obtain ⟨m, hm⟩ : ∃ m, (uFlat ds).length = m := ⟨_, rfl⟩
              have HP := hide bP
              have HS2 := hide bS
              have HR := hide bR
              have HBW := hide hBW
              have Hpre := hide hpre
              have Hps := hide hps
              rw [hm] at hcP
              cases rest with
              | nil =>
                have c3m := hide (c3.out ((m : Nat) : Int))
                rw [← hm, ufst_end (by rw [List.append_nil] at hSp; exact hSp), hm] at c3m
                have hno : ¬ (pre ++ [x]).map Subtype.val <+: uPl 0 ps := fun g => utells_end hpre (by rw [hps, List.append_nil] at g; exact g)
                have HNO := hide hno
                clear bP bS bR hBW hpre hps hSp hno hm
                obtain ⟨⟨x1, x2⟩, hx⟩ := x
                simp only
                gi_wp2_with fail
                refine ⟨trivial, (CallsIn.inRound l (callsIn_wide.2 (c3m.out _))).mono ?_⟩
                rintro e w' ⟨rfl, rfl⟩
                gi_wp2
                exact ⟨(KeepsOthers.setCell _ _ _).from _, rfl, HNO.out⟩
              | cons p rest =>
                have c3m := hide (c3.out ((m : Nat) : Int))
                rw [← hm, ufst_next hSp, hm] at c3m
                have hpos := uEnc_pos p
                have hpx := hide (fun g => utells_pre (ys := pre) (x := x) (ds := ds) (p := p) (rest := rest) hpre g)
                rw [hm] at hpx
                have hml : (m : Int) + ((uEnc p).length : Int) ≤ 9223372036854775807 := by
                  have := congrArg List.length hSp.eq
                  rw [HL.out, uFlat_append, uFlat_cons, List.length_append, List.length_append, List.length_append, hm] at this
                  omega
                have Hfs := hide (show (uFlat (ds ++ [p])).length = m + (uEnc p).length by rw [uFlat_snoc, List.length_append, hm])
                have Hpl := hide (show uPl 0 (ds ++ [p]) = uPl 0 ds ++ [((m : Int), p)] by rw [uPl_append, hm]; simp [uPl])
                obtain ⟨n, hn⟩ : ∃ n, (uEnc p).length = n := ⟨_, rfl⟩
                rw [hn] at c3m hpos hml Hfs
                have q1 : ((n != 0) : Bool) = true := by simp; omega
                clear bP bS bR hBW hpre hps hSp hn
                obtain ⟨⟨x1, x2⟩, hx⟩ := x
                simp only at hpx ⊢
                by_cases h1 : x1 = (m : Int)
                · have q2 : (x1 != (m : Int)) = false := by simp [h1]
                  by_cases h2 : p = x2
                  · have q3 : (p != x2) = false := by simp [h2]
                    have H1 := hide h1
                    have H2 := hide h2
                    clear h1 h2 hpx
                    gi_wp2_with fail
                    refine ⟨trivial, (CallsIn.inRound l (callsIn_wide.2 (c3m.out _))).mono ?_⟩
                    rintro e w' ⟨rfl, rfl⟩
                    gi_wp2
                    refine ⟨(KeepsOthers.setCell _ _ _).from _, ⟨(Below.refl _ _).setCell (p := ⟨W2.heap.size, 0, none⟩) (show w.heap.size ≤ W2.heap.size by omega) _, fun v h => h.other (by omega) _⟩, ⟨ds ++ [p], rest, by rw [Hps.out]; simp, ?_, ?_, HS2.out.other (by omega) _, HR.out.other (by omega) _⟩, HBW.out.setCell (p := ⟨W2.heap.size, 0, none⟩) (show w.heap.size ≤ W2.heap.size by omega) _⟩
                    · rw [List.map_append, Hpre.out, Hpl.out]
                      simp [H1.out, H2.out]
                    · rw [Hfs.out]
                      have := HP.out.set (.int .i64 ((m : Int) + (n : Int)))
                      simpa using this
                  · have q3 : (p != x2) = true := by simp [h2]
                    have HNO := hide (show ¬ (pre ++ [(⟨(x1, x2), hx⟩ : UPair)]).map Subtype.val <+: uPl 0 ps from fun g => by
                      have := hpx.out (by rw [Hps.out] at g; exact g)
                      simp at this; exact h2 this.2.symm)
                    have H1 := hide h1
                    clear h1 h2 hpx
                    gi_wp2_with fail
                    refine ⟨trivial, (CallsIn.inRound l (callsIn_wide.2 (c3m.out _))).mono ?_⟩
                    rintro e w' ⟨rfl, rfl⟩
                    gi_wp2
                    exact ⟨(KeepsOthers.setCell _ _ _).from _, rfl, HNO.out⟩
                · have q2 : (x1 != (m : Int)) = true := by simp [h1]
                  have HNO := hide (show ¬ (pre ++ [(⟨(x1, x2), hx⟩ : UPair)]).map Subtype.val <+: uPl 0 ps from fun g => by
                    have := hpx.out (by rw [Hps.out] at g; exact g)
                    simp at this; exact h1 this.1)
                  clear h1 hpx
                  gi_wp2_with fail
                  refine ⟨trivial, (CallsIn.inRound l (callsIn_wide.2 (c3m.out _))).mono ?_⟩
                  rintro e w' ⟨rfl, rfl⟩
                  gi_wp2
                  exact ⟨(KeepsOthers.setCell _ _ _).from _, rfl, HNO.out⟩
            case refine'_4 =>
              rintro D ys W hD hys ⟨⟨ds, rest, hps, hpre, bP, bS, bR⟩, hBW⟩ hK
              have hds : ds = ps := uPl_inj (hpre.symm.trans hys)
              subst hds
              have c3m := hide (c3.out (((uFlat ds).length : Nat) : Int))
              rw [ufst_end HS.out] at c3m
              have hcP := bP.cell
              have hcS := bS.cell
              have hcR := bR.cell
              have hfR := bR.frozen
              have hsz3 := bP.lt
              have hsz4 := bS.lt
              have HR := hide bR
              have HBW := hide hBW
              obtain ⟨m, hm⟩ : ∃ m, (uFlat ds).length = m := ⟨_, rfl⟩
              rw [hm] at hcP c3m
              have c1m := c1
              rw [hm] at c1m
              have q1 : ((m : Int) == (m : Int)) = true := by simp
              clear bP bS bR hBW hpre hps hys hm
              go_wp2_with (go_at_call 9; refine (c3m.out _).mono ?_; rintro e w' ⟨rfl, rfl⟩)
              have hsz2 := HR.out.lt
              have K : Below w'.heap.size w' w'.drew := (Below.refl _ _).drew
              go_region_held3 (fun u => u.cell? ⟨w.heap.size, 0, none⟩ = some (.string s) ∧ u.cell? ⟨W2.heap.size, 0, none⟩ = some (.int .i64 (m : Int)))
                (first
                  | with_reducible exact ⟨(K.cell (p := ⟨w.heap.size, 0, none⟩) hsz4).trans hcS, (K.cell (p := ⟨W2.heap.size, 0, none⟩) hsz3).trans hcP⟩
                  | with_reducible exact ⟨ucell_set (by omega) ((K.cell (p := ⟨w.heap.size, 0, none⟩) hsz4).trans hcS), ucell_set (by omega) ((K.cell (p := ⟨W2.heap.size, 0, none⟩) hsz3).trans hcP)⟩
                  | go_keep)
                (first
                  | (go_at_call 7; (with_reducible refine (c1m.out _).mono ?_); rintro e w2 ⟨rfl, hb⟩; replace K := ubelow_tr K hb; clear hb)
                  | (go_at_call 10; (with_reducible refine ulives_any.mono ?_); rintro e w3 ⟨rfl, hb⟩; replace K := ubelow_tr K hb; clear hb; have hcR3 := (K.cell (p := ⟨w.heap.size + 1, 0, none⟩) hsz2).trans hcR; have hfR3 := (K.frozen (p := ⟨w.heap.size + 1, 0, none⟩) hsz2).trans hfR))
              go_wp2
              have hDl : D < w'.heap.size := (Array.getElem?_eq_some_iff.1 hK).1
              have hK3 := (K.block D hDl).trans hK
              have hK' := (KeepsOthers.setCell w3 ⟨w.heap.size + 1, 0, none⟩ (.bool true)).same D _ hK3 rfl
              refine ⟨by simp, .inl ⟨_, _, rfl, run_takeDeferred hK', ?_⟩⟩
              have hc5 := cell_kept (World.cell?_setCell_same' w3 ⟨w.heap.size + 1, 0, none⟩ (.bool true) (by rw [hcR3]; rfl)) (grownBy_putObj' _ D (.deferred none)) (fun r e => by cases e; exact ⟨_, hK', rfl⟩)
              have hBB := ((HBW.out.trans (K.mono HBW.out.size)).setCell (p := ⟨w.heap.size + 1, 0, none⟩) (show w.heap.size ≤ w.heap.size + 1 by omega) (.bool true)).trans (belowK_b (w := w) (Nat.le_refl _) _ D _ (.deferred none) (by have := HBw.out.size; simp at hD this; omega) hK' rfl rfl)
              refine ⟨.bool true, ?_, rfl, hBB⟩
              simp [results, Try.f6, go_sem, hc5]
            case refine'_5 =>
              rintro D c pre W _ hpx ⟨_, hno⟩ _
              exact absurd hpx hno
          · exact absurd q9 (by decide)
          · exact absurd q9 (by decide)
          · clear q9
            have hfn : ∀ (w : World) f a c, (binOp .eql 36 (.func f a c) .nilFunc).run Try.prog w = .ok (.bool false) w := fun w f a c => run_func_nil w
            go_wp2_with (go_at_call 16; refine all_any.mono ?_; rintro e w' ⟨rfl, rfl⟩)
            have bP := (Boxed.new (W2) 3 (.int .i64 0)).alloc (.cells #[.string s] 9)
            have bN := Boxed.new ((W2).alloc (.cells #[.int .i64 0] 3)) 9 (.string s)
            have bS := (HBS.out.alloc (.cells #[.int .i64 0] 3)).alloc (.cells #[.string s] 9)
            have bR := (HBR.out.alloc (.cells #[.int .i64 0] 3)).alloc (.cells #[.string s] 9)
            have hBW := (HBw.out.alloc (by have := HBw.out.size; omega) (.cells #[.int .i64 0] 3)).alloc (by have := HBw.out.size; simp at this ⊢; omega) (.cells #[.string s] 9)
            simp only [World.size_alloc] at bP bN
            have hpb : w.heap.size + 1 < W2.heap.size := by have := HBR.out.lt; simp at this ⊢; try omega
            go_wp2_with fail
            refine (wpIn_wide (n := 4)).1 ?_
            refine' wpIn_rangeFunc_ownG rfl (by omega) (gf := 31) (lb := #[.pointer (some ⟨W2.heap.size + 1, 0, none⟩)]) (by simp [go_sem]) trivial (enters_of Try.func31 (by kernel_rfl) rfl)
              (HST.out _ _ w.heap.size bN) ukp_t (ukp_b (by simp; try omega) (by simp; try omega)) (Below.refl _ _) (fun _ => rfl)
              (fun pre W => UTI s w.heap.size (W2.heap.size) ps pre W ∧ Below w.heap.size w W)
              (fun c pre W => c = .ret ∧ ¬ pre.map Subtype.val <+: uPl 0 ps)
              (OwnFrom.and (Own.from uti_own _) (ownFrom_below (Nat.le_refl _) (by simp; try omega)))
              (fun _ _ _ _ _ hs _ _ => hs)
              ⟨⟨[], ps, rfl, rfl, bP, bS, bR⟩, hBW⟩ _ _ _ _ _
            case refine'_2 =>
              intro l x W K hK
              gi_wp2
              exact hK
            case refine'_3 =>
              rintro l pre x W ⟨⟨ds, rest, hps, hpre, bP, bS, bR⟩, hBW⟩ hlt
              have hSp : USplit es (ds ++ rest) t := by rw [← hps]; exact HS.out
              have hcP := bP.cell
              have hcS := bS.cell
              have hfP := bP.frozen
              have hfR := bR.frozen
              have hcR := bR.cell
              obtain ⟨m, hm⟩ : ∃ m, (uFlat ds).length = m := ⟨_, rfl⟩
              have HP := hide bP
              have HS2 := hide bS
              have HR := hide bR
              have HBW := hide hBW
              have Hpre := hide hpre
              have Hps := hide hps
              rw [hm] at hcP
              cases rest with
              | nil =>
                have c3m := hide (c3.out ((m : Nat) : Int))
                rw [← hm, ufst_end (by rw [List.append_nil] at hSp; exact hSp), hm] at c3m
                have hno : ¬ (pre ++ [x]).map Subtype.val <+: uPl 0 ps := fun g => utells_end hpre (by rw [hps, List.append_nil] at g; exact g)
                have HNO := hide hno
                clear bP bS bR hBW hpre hps hSp hno hm
                obtain ⟨⟨x1, x2⟩, hx⟩ := x
                simp only
                gi_wp2_with fail
                refine ⟨trivial, (CallsIn.inRound l (callsIn_wide.2 (c3m.out _))).mono ?_⟩
                rintro e w' ⟨rfl, rfl⟩
                gi_wp2
                exact ⟨(KeepsOthers.setCell _ _ _).from _, rfl, HNO.out⟩
              | cons p rest =>
                have c3m := hide (c3.out ((m : Nat) : Int))
                rw [← hm, ufst_next hSp, hm] at c3m
                have hpos := uEnc_pos p
                have hpx := hide (fun g => utells_pre (ys := pre) (x := x) (ds := ds) (p := p) (rest := rest) hpre g)
                rw [hm] at hpx
                have hml : (m : Int) + ((uEnc p).length : Int) ≤ 9223372036854775807 := by
                  have := congrArg List.length hSp.eq
                  rw [HL.out, uFlat_append, uFlat_cons, List.length_append, List.length_append, List.length_append, hm] at this
                  omega
                have Hfs := hide (show (uFlat (ds ++ [p])).length = m + (uEnc p).length by rw [uFlat_snoc, List.length_append, hm])
                have Hpl := hide (show uPl 0 (ds ++ [p]) = uPl 0 ds ++ [((m : Int), p)] by rw [uPl_append, hm]; simp [uPl])
                obtain ⟨n, hn⟩ : ∃ n, (uEnc p).length = n := ⟨_, rfl⟩
                rw [hn] at c3m hpos hml Hfs
                have q1 : ((n != 0) : Bool) = true := by simp; omega
                clear bP bS bR hBW hpre hps hSp hn
                obtain ⟨⟨x1, x2⟩, hx⟩ := x
                simp only at hpx ⊢
                by_cases h1 : x1 = (m : Int)
                · have q2 : (x1 != (m : Int)) = false := by simp [h1]
                  by_cases h2 : p = x2
                  · have q3 : (p != x2) = false := by simp [h2]
                    have H1 := hide h1
                    have H2 := hide h2
                    clear h1 h2 hpx
                    gi_wp2_with fail
                    refine ⟨trivial, (CallsIn.inRound l (callsIn_wide.2 (c3m.out _))).mono ?_⟩
                    rintro e w' ⟨rfl, rfl⟩
                    gi_wp2
                    refine ⟨(KeepsOthers.setCell _ _ _).from _, ⟨(Below.refl _ _).setCell (p := ⟨W2.heap.size, 0, none⟩) (show w.heap.size ≤ W2.heap.size by omega) _, fun v h => h.other (by omega) _⟩, ⟨ds ++ [p], rest, by rw [Hps.out]; simp, ?_, ?_, HS2.out.other (by omega) _, HR.out.other (by omega) _⟩, HBW.out.setCell (p := ⟨W2.heap.size, 0, none⟩) (show w.heap.size ≤ W2.heap.size by omega) _⟩
                    · rw [List.map_append, Hpre.out, Hpl.out]
                      simp [H1.out, H2.out]
                    · rw [Hfs.out]
                      have := HP.out.set (.int .i64 ((m : Int) + (n : Int)))
                      simpa using this
                  · have q3 : (p != x2) = true := by simp [h2]
                    have HNO := hide (show ¬ (pre ++ [(⟨(x1, x2), hx⟩ : UPair)]).map Subtype.val <+: uPl 0 ps from fun g => by
                      have := hpx.out (by rw [Hps.out] at g; exact g)
                      simp at this; exact h2 this.2.symm)
                    have H1 := hide h1
                    clear h1 h2 hpx
                    gi_wp2_with fail
                    refine ⟨trivial, (CallsIn.inRound l (callsIn_wide.2 (c3m.out _))).mono ?_⟩
                    rintro e w' ⟨rfl, rfl⟩
                    gi_wp2
                    exact ⟨(KeepsOthers.setCell _ _ _).from _, rfl, HNO.out⟩
                · have q2 : (x1 != (m : Int)) = true := by simp [h1]
                  have HNO := hide (show ¬ (pre ++ [(⟨(x1, x2), hx⟩ : UPair)]).map Subtype.val <+: uPl 0 ps from fun g => by
                    have := hpx.out (by rw [Hps.out] at g; exact g)
                    simp at this; exact h1 this.1)
                  clear h1 hpx
                  gi_wp2_with fail
                  refine ⟨trivial, (CallsIn.inRound l (callsIn_wide.2 (c3m.out _))).mono ?_⟩
                  rintro e w' ⟨rfl, rfl⟩
                  gi_wp2
                  exact ⟨(KeepsOthers.setCell _ _ _).from _, rfl, HNO.out⟩
            case refine'_4 =>
              rintro D ys W hD hys ⟨⟨ds, rest, hps, hpre, bP, bS, bR⟩, hBW⟩ hK
              have hds : ds = ps := uPl_inj (hpre.symm.trans hys)
              subst hds
              have c3m := hide (c3.out (((uFlat ds).length : Nat) : Int))
              rw [ufst_end HS.out] at c3m
              have hcP := bP.cell
              have hcS := bS.cell
              have hcR := bR.cell
              have hfR := bR.frozen
              have hsz3 := bP.lt
              have hsz4 := bS.lt
              have HR := hide bR
              have HBW := hide hBW
              obtain ⟨m, hm⟩ : ∃ m, (uFlat ds).length = m := ⟨_, rfl⟩
              rw [hm] at hcP c3m
              have c1m := c1
              rw [hm] at c1m
              have q1 : ((m : Int) == (m : Int)) = true := by simp
              clear bP bS bR hBW hpre hps hys hm
              go_wp2_with (go_at_call 9; refine (c3m.out _).mono ?_; rintro e w' ⟨rfl, rfl⟩)
              have hsz2 := HR.out.lt
              have K : Below w'.heap.size w' w'.drew := (Below.refl _ _).drew
              go_region_held3 (fun u => u.cell? ⟨w.heap.size, 0, none⟩ = some (.string s) ∧ u.cell? ⟨W2.heap.size, 0, none⟩ = some (.int .i64 (m : Int)))
                (first
                  | with_reducible exact ⟨(K.cell (p := ⟨w.heap.size, 0, none⟩) hsz4).trans hcS, (K.cell (p := ⟨W2.heap.size, 0, none⟩) hsz3).trans hcP⟩
                  | with_reducible exact ⟨ucell_set (by omega) ((K.cell (p := ⟨w.heap.size, 0, none⟩) hsz4).trans hcS), ucell_set (by omega) ((K.cell (p := ⟨W2.heap.size, 0, none⟩) hsz3).trans hcP)⟩
                  | go_keep)
                (first
                  | (go_at_call 7; (with_reducible refine (c1m.out _).mono ?_); rintro e w2 ⟨rfl, hb⟩; replace K := ubelow_tr K hb; clear hb)
                  | (go_at_call 10; (with_reducible refine ulives_any.mono ?_); rintro e w3 ⟨rfl, hb⟩; replace K := ubelow_tr K hb; clear hb; have hcR3 := (K.cell (p := ⟨w.heap.size + 1, 0, none⟩) hsz2).trans hcR; have hfR3 := (K.frozen (p := ⟨w.heap.size + 1, 0, none⟩) hsz2).trans hfR))
              go_wp2
              have hDl : D < w'.heap.size := (Array.getElem?_eq_some_iff.1 hK).1
              have hK3 := (K.block D hDl).trans hK
              have hK' := (KeepsOthers.setCell w3 ⟨w.heap.size + 1, 0, none⟩ (.bool true)).same D _ hK3 rfl
              refine ⟨by simp, .inl ⟨_, _, rfl, run_takeDeferred hK', ?_⟩⟩
              have hc5 := cell_kept (World.cell?_setCell_same' w3 ⟨w.heap.size + 1, 0, none⟩ (.bool true) (by rw [hcR3]; rfl)) (grownBy_putObj' _ D (.deferred none)) (fun r e => by cases e; exact ⟨_, hK', rfl⟩)
              have hBB := ((HBW.out.trans (K.mono HBW.out.size)).setCell (p := ⟨w.heap.size + 1, 0, none⟩) (show w.heap.size ≤ w.heap.size + 1 by omega) (.bool true)).trans (belowK_b (w := w) (Nat.le_refl _) _ D _ (.deferred none) (by have := HBw.out.size; simp at hD this; omega) hK' rfl rfl)
              refine ⟨.bool true, ?_, rfl, hBB⟩
              simp [results, Try.f6, go_sem, hc5]
            case refine'_5 =>
              rintro D c pre W _ hpx ⟨_, hno⟩ _
              exact absurd hpx hno
  · have f1 : decide (0 ≤ at_) = true ∧ decide (at_ < (L : Int)) = false ∨ decide (0 ≤ at_) = false := by
      by_cases h : 0 ≤ at_
      · exact .inl ⟨decide_eq_true h, decide_eq_false (by omega)⟩
      · exact .inr (decide_eq_false h)
    have HBS := hide (show Boxed ((w.alloc (.cells #[.string s] 9)).alloc (.cells #[.bool false] 4)) w.heap.size 9 (.string s) from (Boxed.new w 9 (.string s)).alloc _)
    have HBR := hide (show Boxed ((w.alloc (.cells #[.string s] 9)).alloc (.cells #[.bool false] 4)) (w.heap.size + 1) 4 (.bool false) by have := Boxed.new (w.alloc (.cells #[.string s] 9)) 4 (.bool false); rw [World.size_alloc] at this; exact this)
    have HBw := hide (show Below w.heap.size w ((w.alloc (.cells #[.string s] 9)).alloc (.cells #[.bool false] 4)) from ((Below.refl _ w).alloc (Nat.le_refl _) _).alloc (by simp) _)
    rcases f1 with ⟨f1, f2⟩ | f1
    · clear hin
      have hfn : ∀ (w : World) f a c, (binOp .eql 36 (.func f a c) .nilFunc).run Try.prog w = .ok (.bool false) w := fun w f a c => run_func_nil w
      go_wp2_with (go_at_call 16; refine all_any.mono ?_; rintro e w' ⟨rfl, rfl⟩)
      have bP := (Boxed.new ((w.alloc (.cells #[.string s] 9)).alloc (.cells #[.bool false] 4)) 3 (.int .i64 0)).alloc (.cells #[.string s] 9)
      have bN := Boxed.new (((w.alloc (.cells #[.string s] 9)).alloc (.cells #[.bool false] 4)).alloc (.cells #[.int .i64 0] 3)) 9 (.string s)
      have bS := (HBS.out.alloc (.cells #[.int .i64 0] 3)).alloc (.cells #[.string s] 9)
      have bR := (HBR.out.alloc (.cells #[.int .i64 0] 3)).alloc (.cells #[.string s] 9)
      have hBW := (HBw.out.alloc (by have := HBw.out.size; omega) (.cells #[.int .i64 0] 3)).alloc (by have := HBw.out.size; simp at this ⊢; omega) (.cells #[.string s] 9)
      simp only [World.size_alloc] at bP bN
      have hpb : w.heap.size + 1 < w.heap.size + 1 + 1 := by have := HBR.out.lt; simp at this ⊢; try omega
      go_wp2_with fail
      refine (wpIn_wide (n := 4)).1 ?_
      refine' wpIn_rangeFunc_ownG rfl (by omega) (gf := 31) (lb := #[.pointer (some ⟨w.heap.size + 1 + 1 + 1, 0, none⟩)]) (by simp [go_sem]) trivial (enters_of Try.func31 (by kernel_rfl) rfl)
        (HST.out _ _ w.heap.size bN) ukp_t (ukp_b (by simp; try omega) (by simp; try omega)) (Below.refl _ _) (fun _ => rfl)
        (fun pre W => UTI s w.heap.size (w.heap.size + 1 + 1) ps pre W ∧ Below w.heap.size w W)
        (fun c pre W => c = .ret ∧ ¬ pre.map Subtype.val <+: uPl 0 ps)
        (OwnFrom.and (Own.from uti_own _) (ownFrom_below (Nat.le_refl _) (by simp; try omega)))
        (fun _ _ _ _ _ hs _ _ => hs)
        ⟨⟨[], ps, rfl, rfl, bP, bS, bR⟩, hBW⟩ _ _ _ _ _
      case refine'_2 =>
        intro l x W K hK
        gi_wp2
        exact hK
      case refine'_3 =>
        rintro l pre x W ⟨⟨ds, rest, hps, hpre, bP, bS, bR⟩, hBW⟩ hlt
        have hSp : USplit es (ds ++ rest) t := by rw [← hps]; exact HS.out
        have hcP := bP.cell
        have hcS := bS.cell
        have hfP := bP.frozen
        have hfR := bR.frozen
        have hcR := bR.cell
        obtain ⟨m, hm⟩ : ∃ m, (uFlat ds).length = m := ⟨_, rfl⟩
        have HP := hide bP
        have HS2 := hide bS
        have HR := hide bR
        have HBW := hide hBW
        have Hpre := hide hpre
        have Hps := hide hps
        rw [hm] at hcP
        cases rest with
        | nil =>
          have c3m := hide (c3.out ((m : Nat) : Int))
          rw [← hm, ufst_end (by rw [List.append_nil] at hSp; exact hSp), hm] at c3m
          have hno : ¬ (pre ++ [x]).map Subtype.val <+: uPl 0 ps := fun g => utells_end hpre (by rw [hps, List.append_nil] at g; exact g)
          have HNO := hide hno
          clear bP bS bR hBW hpre hps hSp hno hm
          obtain ⟨⟨x1, x2⟩, hx⟩ := x
          simp only
          gi_wp2_with fail
          refine ⟨trivial, (CallsIn.inRound l (callsIn_wide.2 (c3m.out _))).mono ?_⟩
          rintro e w' ⟨rfl, rfl⟩
          gi_wp2
          exact ⟨(KeepsOthers.setCell _ _ _).from _, rfl, HNO.out⟩
        | cons p rest =>
          have c3m := hide (c3.out ((m : Nat) : Int))
          rw [← hm, ufst_next hSp, hm] at c3m
          have hpos := uEnc_pos p
          have hpx := hide (fun g => utells_pre (ys := pre) (x := x) (ds := ds) (p := p) (rest := rest) hpre g)
          rw [hm] at hpx
          have hml : (m : Int) + ((uEnc p).length : Int) ≤ 9223372036854775807 := by
            have := congrArg List.length hSp.eq
            rw [HL.out, uFlat_append, uFlat_cons, List.length_append, List.length_append, List.length_append, hm] at this
            omega
          have Hfs := hide (show (uFlat (ds ++ [p])).length = m + (uEnc p).length by rw [uFlat_snoc, List.length_append, hm])
          have Hpl := hide (show uPl 0 (ds ++ [p]) = uPl 0 ds ++ [((m : Int), p)] by rw [uPl_append, hm]; simp [uPl])
          obtain ⟨n, hn⟩ : ∃ n, (uEnc p).length = n := ⟨_, rfl⟩
          rw [hn] at c3m hpos hml Hfs
          have q1 : ((n != 0) : Bool) = true := by simp; omega
          clear bP bS bR hBW hpre hps hSp hn
          obtain ⟨⟨x1, x2⟩, hx⟩ := x
          simp only at hpx ⊢
          by_cases h1 : x1 = (m : Int)
          · have q2 : (x1 != (m : Int)) = false := by simp [h1]
            by_cases h2 : p = x2
            · have q3 : (p != x2) = false := by simp [h2]
              have H1 := hide h1
              have H2 := hide h2
              clear h1 h2 hpx
              gi_wp2_with fail
              refine ⟨trivial, (CallsIn.inRound l (callsIn_wide.2 (c3m.out _))).mono ?_⟩
              rintro e w' ⟨rfl, rfl⟩
              gi_wp2
              refine ⟨(KeepsOthers.setCell _ _ _).from _, ⟨(Below.refl _ _).setCell (p := ⟨w.heap.size + 1 + 1, 0, none⟩) (show w.heap.size ≤ w.heap.size + 1 + 1 by omega) _, fun v h => h.other (by omega) _⟩, ⟨ds ++ [p], rest, by rw [Hps.out]; simp, ?_, ?_, HS2.out.other (by omega) _, HR.out.other (by omega) _⟩, HBW.out.setCell (p := ⟨w.heap.size + 1 + 1, 0, none⟩) (show w.heap.size ≤ w.heap.size + 1 + 1 by omega) _⟩
              · rw [List.map_append, Hpre.out, Hpl.out]
                simp [H1.out, H2.out]
              · rw [Hfs.out]
                have := HP.out.set (.int .i64 ((m : Int) + (n : Int)))
                simpa using this
            · have q3 : (p != x2) = true := by simp [h2]
              have HNO := hide (show ¬ (pre ++ [(⟨(x1, x2), hx⟩ : UPair)]).map Subtype.val <+: uPl 0 ps from fun g => by
                have := hpx.out (by rw [Hps.out] at g; exact g)
                simp at this; exact h2 this.2.symm)
              have H1 := hide h1
              clear h1 h2 hpx
              gi_wp2_with fail
              refine ⟨trivial, (CallsIn.inRound l (callsIn_wide.2 (c3m.out _))).mono ?_⟩
              rintro e w' ⟨rfl, rfl⟩
              gi_wp2
              exact ⟨(KeepsOthers.setCell _ _ _).from _, rfl, HNO.out⟩
          · have q2 : (x1 != (m : Int)) = true := by simp [h1]
            have HNO := hide (show ¬ (pre ++ [(⟨(x1, x2), hx⟩ : UPair)]).map Subtype.val <+: uPl 0 ps from fun g => by
              have := hpx.out (by rw [Hps.out] at g; exact g)
              simp at this; exact h1 this.1)
            clear h1 hpx
            gi_wp2_with fail
            refine ⟨trivial, (CallsIn.inRound l (callsIn_wide.2 (c3m.out _))).mono ?_⟩
            rintro e w' ⟨rfl, rfl⟩
            gi_wp2
            exact ⟨(KeepsOthers.setCell _ _ _).from _, rfl, HNO.out⟩
      case refine'_4 =>
        rintro D ys W hD hys ⟨⟨ds, rest, hps, hpre, bP, bS, bR⟩, hBW⟩ hK
        have hds : ds = ps := uPl_inj (hpre.symm.trans hys)
        subst hds
        have c3m := hide (c3.out (((uFlat ds).length : Nat) : Int))
        rw [ufst_end HS.out] at c3m
        have hcP := bP.cell
        have hcS := bS.cell
        have hcR := bR.cell
        have hfR := bR.frozen
        have hsz3 := bP.lt
        have hsz4 := bS.lt
        have HR := hide bR
        have HBW := hide hBW
        obtain ⟨m, hm⟩ : ∃ m, (uFlat ds).length = m := ⟨_, rfl⟩
        rw [hm] at hcP c3m
        have c1m := c1
        rw [hm] at c1m
        have q1 : ((m : Int) == (m : Int)) = true := by simp
        clear bP bS bR hBW hpre hps hys hm
        go_wp2_with (go_at_call 9; refine (c3m.out _).mono ?_; rintro e w' ⟨rfl, rfl⟩)
        have hsz2 := HR.out.lt
        have K : Below w'.heap.size w' w'.drew := (Below.refl _ _).drew
        go_region_held3 (fun u => u.cell? ⟨w.heap.size, 0, none⟩ = some (.string s) ∧ u.cell? ⟨w.heap.size + 1 + 1, 0, none⟩ = some (.int .i64 (m : Int)))
          (first
            | with_reducible exact ⟨(K.cell (p := ⟨w.heap.size, 0, none⟩) hsz4).trans hcS, (K.cell (p := ⟨w.heap.size + 1 + 1, 0, none⟩) hsz3).trans hcP⟩
            | with_reducible exact ⟨ucell_set (by omega) ((K.cell (p := ⟨w.heap.size, 0, none⟩) hsz4).trans hcS), ucell_set (by omega) ((K.cell (p := ⟨w.heap.size + 1 + 1, 0, none⟩) hsz3).trans hcP)⟩
            | go_keep)
          (first
            | (go_at_call 7; (with_reducible refine (c1m.out _).mono ?_); rintro e w2 ⟨rfl, hb⟩; replace K := ubelow_tr K hb; clear hb)
            | (go_at_call 10; (with_reducible refine ulives_any.mono ?_); rintro e w3 ⟨rfl, hb⟩; replace K := ubelow_tr K hb; clear hb; have hcR3 := (K.cell (p := ⟨w.heap.size + 1, 0, none⟩) hsz2).trans hcR; have hfR3 := (K.frozen (p := ⟨w.heap.size + 1, 0, none⟩) hsz2).trans hfR))
        go_wp2
        have hDl : D < w'.heap.size := (Array.getElem?_eq_some_iff.1 hK).1
        have hK3 := (K.block D hDl).trans hK
        have hK' := (KeepsOthers.setCell w3 ⟨w.heap.size + 1, 0, none⟩ (.bool true)).same D _ hK3 rfl
        refine ⟨by simp, .inl ⟨_, _, rfl, run_takeDeferred hK', ?_⟩⟩
        have hc5 := cell_kept (World.cell?_setCell_same' w3 ⟨w.heap.size + 1, 0, none⟩ (.bool true) (by rw [hcR3]; rfl)) (grownBy_putObj' _ D (.deferred none)) (fun r e => by cases e; exact ⟨_, hK', rfl⟩)
        have hBB := ((HBW.out.trans (K.mono HBW.out.size)).setCell (p := ⟨w.heap.size + 1, 0, none⟩) (show w.heap.size ≤ w.heap.size + 1 by omega) (.bool true)).trans (belowK_b (w := w) (Nat.le_refl _) _ D _ (.deferred none) (by have := HBw.out.size; simp at hD this; omega) hK' rfl rfl)
        refine ⟨.bool true, ?_, rfl, hBB⟩
        simp [results, Try.f6, go_sem, hc5]
      case refine'_5 =>
        rintro D c pre W _ hpx ⟨_, hno⟩ _
        exact absurd hpx hno
    · clear hin
      have hfn : ∀ (w : World) f a c, (binOp .eql 36 (.func f a c) .nilFunc).run Try.prog w = .ok (.bool false) w := fun w f a c => run_func_nil w
      go_wp2_with (go_at_call 16; refine all_any.mono ?_; rintro e w' ⟨rfl, rfl⟩)
      have bP := (Boxed.new ((w.alloc (.cells #[.string s] 9)).alloc (.cells #[.bool false] 4)) 3 (.int .i64 0)).alloc (.cells #[.string s] 9)
      have bN := Boxed.new (((w.alloc (.cells #[.string s] 9)).alloc (.cells #[.bool false] 4)).alloc (.cells #[.int .i64 0] 3)) 9 (.string s)
      have bS := (HBS.out.alloc (.cells #[.int .i64 0] 3)).alloc (.cells #[.string s] 9)
      have bR := (HBR.out.alloc (.cells #[.int .i64 0] 3)).alloc (.cells #[.string s] 9)
      have hBW := (HBw.out.alloc (by have := HBw.out.size; omega) (.cells #[.int .i64 0] 3)).alloc (by have := HBw.out.size; simp at this ⊢; omega) (.cells #[.string s] 9)
      simp only [World.size_alloc] at bP bN
      have hpb : w.heap.size + 1 < w.heap.size + 1 + 1 := by have := HBR.out.lt; simp at this ⊢; try omega
      go_wp2_with fail
      refine (wpIn_wide (n := 4)).1 ?_
      refine' wpIn_rangeFunc_ownG rfl (by omega) (gf := 31) (lb := #[.pointer (some ⟨w.heap.size + 1 + 1 + 1, 0, none⟩)]) (by simp [go_sem]) trivial (enters_of Try.func31 (by kernel_rfl) rfl)
        (HST.out _ _ w.heap.size bN) ukp_t (ukp_b (by simp; try omega) (by simp; try omega)) (Below.refl _ _) (fun _ => rfl)
        (fun pre W => UTI s w.heap.size (w.heap.size + 1 + 1) ps pre W ∧ Below w.heap.size w W)
        (fun c pre W => c = .ret ∧ ¬ pre.map Subtype.val <+: uPl 0 ps)
        (OwnFrom.and (Own.from uti_own _) (ownFrom_below (Nat.le_refl _) (by simp; try omega)))
        (fun _ _ _ _ _ hs _ _ => hs)
        ⟨⟨[], ps, rfl, rfl, bP, bS, bR⟩, hBW⟩ _ _ _ _ _
      case refine'_2 =>
        intro l x W K hK
        gi_wp2
        exact hK
      case refine'_3 =>
        rintro l pre x W ⟨⟨ds, rest, hps, hpre, bP, bS, bR⟩, hBW⟩ hlt
        have hSp : USplit es (ds ++ rest) t := by rw [← hps]; exact HS.out
        have hcP := bP.cell
        have hcS := bS.cell
        have hfP := bP.frozen
        have hfR := bR.frozen
        have hcR := bR.cell
        obtain ⟨m, hm⟩ : ∃ m, (uFlat ds).length = m := ⟨_, rfl⟩
        have HP := hide bP
        have HS2 := hide bS
        have HR := hide bR
        have HBW := hide hBW
        have Hpre := hide hpre
        have Hps := hide hps
        rw [hm] at hcP
        cases rest with
        | nil =>
          have c3m := hide (c3.out ((m : Nat) : Int))
          rw [← hm, ufst_end (by rw [List.append_nil] at hSp; exact hSp), hm] at c3m
          have hno : ¬ (pre ++ [x]).map Subtype.val <+: uPl 0 ps := fun g => utells_end hpre (by rw [hps, List.append_nil] at g; exact g)
          have HNO := hide hno
          clear bP bS bR hBW hpre hps hSp hno hm
          obtain ⟨⟨x1, x2⟩, hx⟩ := x
          simp only
          gi_wp2_with fail
          refine ⟨trivial, (CallsIn.inRound l (callsIn_wide.2 (c3m.out _))).mono ?_⟩
          rintro e w' ⟨rfl, rfl⟩
          gi_wp2
          exact ⟨(KeepsOthers.setCell _ _ _).from _, rfl, HNO.out⟩
        | cons p rest =>
          have c3m := hide (c3.out ((m : Nat) : Int))
          rw [← hm, ufst_next hSp, hm] at c3m
          have hpos := uEnc_pos p
          have hpx := hide (fun g => utells_pre (ys := pre) (x := x) (ds := ds) (p := p) (rest := rest) hpre g)
          rw [hm] at hpx
          have hml : (m : Int) + ((uEnc p).length : Int) ≤ 9223372036854775807 := by
            have := congrArg List.length hSp.eq
            rw [HL.out, uFlat_append, uFlat_cons, List.length_append, List.length_append, List.length_append, hm] at this
            omega
          have Hfs := hide (show (uFlat (ds ++ [p])).length = m + (uEnc p).length by rw [uFlat_snoc, List.length_append, hm])
          have Hpl := hide (show uPl 0 (ds ++ [p]) = uPl 0 ds ++ [((m : Int), p)] by rw [uPl_append, hm]; simp [uPl])
          obtain ⟨n, hn⟩ : ∃ n, (uEnc p).length = n := ⟨_, rfl⟩
          rw [hn] at c3m hpos hml Hfs
          have q1 : ((n != 0) : Bool) = true := by simp; omega
          clear bP bS bR hBW hpre hps hSp hn
          obtain ⟨⟨x1, x2⟩, hx⟩ := x
          simp only at hpx ⊢
          by_cases h1 : x1 = (m : Int)
          · have q2 : (x1 != (m : Int)) = false := by simp [h1]
            by_cases h2 : p = x2
            · have q3 : (p != x2) = false := by simp [h2]
              have H1 := hide h1
              have H2 := hide h2
              clear h1 h2 hpx
              gi_wp2_with fail
              refine ⟨trivial, (CallsIn.inRound l (callsIn_wide.2 (c3m.out _))).mono ?_⟩
              rintro e w' ⟨rfl, rfl⟩
              gi_wp2
              refine ⟨(KeepsOthers.setCell _ _ _).from _, ⟨(Below.refl _ _).setCell (p := ⟨w.heap.size + 1 + 1, 0, none⟩) (show w.heap.size ≤ w.heap.size + 1 + 1 by omega) _, fun v h => h.other (by omega) _⟩, ⟨ds ++ [p], rest, by rw [Hps.out]; simp, ?_, ?_, HS2.out.other (by omega) _, HR.out.other (by omega) _⟩, HBW.out.setCell (p := ⟨w.heap.size + 1 + 1, 0, none⟩) (show w.heap.size ≤ w.heap.size + 1 + 1 by omega) _⟩
              · rw [List.map_append, Hpre.out, Hpl.out]
                simp [H1.out, H2.out]
              · rw [Hfs.out]
                have := HP.out.set (.int .i64 ((m : Int) + (n : Int)))
                simpa using this
            · have q3 : (p != x2) = true := by simp [h2]
              have HNO := hide (show ¬ (pre ++ [(⟨(x1, x2), hx⟩ : UPair)]).map Subtype.val <+: uPl 0 ps from fun g => by
                have := hpx.out (by rw [Hps.out] at g; exact g)
                simp at this; exact h2 this.2.symm)
              have H1 := hide h1
              clear h1 h2 hpx
              gi_wp2_with fail
              refine ⟨trivial, (CallsIn.inRound l (callsIn_wide.2 (c3m.out _))).mono ?_⟩
              rintro e w' ⟨rfl, rfl⟩
              gi_wp2
              exact ⟨(KeepsOthers.setCell _ _ _).from _, rfl, HNO.out⟩
          · have q2 : (x1 != (m : Int)) = true := by simp [h1]
            have HNO := hide (show ¬ (pre ++ [(⟨(x1, x2), hx⟩ : UPair)]).map Subtype.val <+: uPl 0 ps from fun g => by
              have := hpx.out (by rw [Hps.out] at g; exact g)
              simp at this; exact h1 this.1)
            clear h1 hpx
            gi_wp2_with fail
            refine ⟨trivial, (CallsIn.inRound l (callsIn_wide.2 (c3m.out _))).mono ?_⟩
            rintro e w' ⟨rfl, rfl⟩
            gi_wp2
            exact ⟨(KeepsOthers.setCell _ _ _).from _, rfl, HNO.out⟩
      case refine'_4 =>
        rintro D ys W hD hys ⟨⟨ds, rest, hps, hpre, bP, bS, bR⟩, hBW⟩ hK
        have hds : ds = ps := uPl_inj (hpre.symm.trans hys)
        subst hds
        have c3m := hide (c3.out (((uFlat ds).length : Nat) : Int))
        rw [ufst_end HS.out] at c3m
        have hcP := bP.cell
        have hcS := bS.cell
        have hcR := bR.cell
        have hfR := bR.frozen
        have hsz3 := bP.lt
        have hsz4 := bS.lt
        have HR := hide bR
        have HBW := hide hBW
        obtain ⟨m, hm⟩ : ∃ m, (uFlat ds).length = m := ⟨_, rfl⟩
        rw [hm] at hcP c3m
        have c1m := c1
        rw [hm] at c1m
        have q1 : ((m : Int) == (m : Int)) = true := by simp
        clear bP bS bR hBW hpre hps hys hm
        go_wp2_with (go_at_call 9; refine (c3m.out _).mono ?_; rintro e w' ⟨rfl, rfl⟩)
        have hsz2 := HR.out.lt
        have K : Below w'.heap.size w' w'.drew := (Below.refl _ _).drew
        go_region_held3 (fun u => u.cell? ⟨w.heap.size, 0, none⟩ = some (.string s) ∧ u.cell? ⟨w.heap.size + 1 + 1, 0, none⟩ = some (.int .i64 (m : Int)))
          (first
            | with_reducible exact ⟨(K.cell (p := ⟨w.heap.size, 0, none⟩) hsz4).trans hcS, (K.cell (p := ⟨w.heap.size + 1 + 1, 0, none⟩) hsz3).trans hcP⟩
            | with_reducible exact ⟨ucell_set (by omega) ((K.cell (p := ⟨w.heap.size, 0, none⟩) hsz4).trans hcS), ucell_set (by omega) ((K.cell (p := ⟨w.heap.size + 1 + 1, 0, none⟩) hsz3).trans hcP)⟩
            | go_keep)
          (first
            | (go_at_call 7; (with_reducible refine (c1m.out _).mono ?_); rintro e w2 ⟨rfl, hb⟩; replace K := ubelow_tr K hb; clear hb)
            | (go_at_call 10; (with_reducible refine ulives_any.mono ?_); rintro e w3 ⟨rfl, hb⟩; replace K := ubelow_tr K hb; clear hb; have hcR3 := (K.cell (p := ⟨w.heap.size + 1, 0, none⟩) hsz2).trans hcR; have hfR3 := (K.frozen (p := ⟨w.heap.size + 1, 0, none⟩) hsz2).trans hfR))
        go_wp2
        have hDl : D < w'.heap.size := (Array.getElem?_eq_some_iff.1 hK).1
        have hK3 := (K.block D hDl).trans hK
        have hK' := (KeepsOthers.setCell w3 ⟨w.heap.size + 1, 0, none⟩ (.bool true)).same D _ hK3 rfl
        refine ⟨by simp, .inl ⟨_, _, rfl, run_takeDeferred hK', ?_⟩⟩
        have hc5 := cell_kept (World.cell?_setCell_same' w3 ⟨w.heap.size + 1, 0, none⟩ (.bool true) (by rw [hcR3]; rfl)) (grownBy_putObj' _ D (.deferred none)) (fun r e => by cases e; exact ⟨_, hK', rfl⟩)
        have hBB := ((HBW.out.trans (K.mono HBW.out.size)).setCell (p := ⟨w.heap.size + 1, 0, none⟩) (show w.heap.size ≤ w.heap.size + 1 by omega) (.bool true)).trans (belowK_b (w := w) (Nat.le_refl _) _ D _ (.deferred none) (by have := HBw.out.size; simp at hD this; omega) hK' rfl rfl)
        refine ⟨.bool true, ?_, rfl, hBB⟩
        simp [results, Try.f6, go_sem, hc5]
      case refine'_5 =>
        rintro D c pre W _ hpx ⟨_, hno⟩ _
        exact absurd hpx hno

end Go.Proofs.Yteejbcknikjkjaa
