import Derived.RangeFuncNested
import Derived.RangeFuncBound
import Derived.RangeFuncCalls
import Derived.RangeFuncLeaves
import Derived.RangeFuncBox
import Derived.Shelf.Abstract
import Derived.Shelf.RegionOpen
import Derived.OwnWalkIn
import Derived.TacticsInMore
import Derived.LoopNIn
import Derived.LoopIn
import Derived.Test.YticmlelalbaalaaGreatDoorB30
namespace Go.Proofs.YticmlelalbaalaaGreatDoor
open Go.RowKit Go.Shelf
set_option linter.unusedVariables false
attribute [local go_sem] Oper.semAt_some
abbrev UPair := { x : Int × Int // uPt x.2 = true ∧ 0 ≤ x.1 ∧ x.1 + uSz x.2 ≤ 9223372036854775807 }
abbrev uEncs (x : UPair) : Array Value := #[.int .i64 x.1.1, .int .i32 x.1.2]
def uPl : Nat → List Int → List (Int × Int)
  | _, [] => []
  | k, p :: ps => ((k : Int), p) :: uPl (k + (uEnc p).length) ps
theorem uPl_append (k : Nat) (xs ys : List Int) : uPl k (xs ++ ys) = uPl k xs ++ uPl (k + (uFlat xs).length) ys := by
  induction xs generalizing k with
  | nil => simp [uPl, uFlat]
  | cons p xs ih => rw [List.cons_append, uPl, ih, uPl, uFlat_cons, List.length_append, List.cons_append, Nat.add_assoc]
theorem uPl_len (k : Nat) (xs : List Int) : (uPl k xs).length = xs.length := by
  induction xs generalizing k with
  | nil => rfl
  | cons p xs ih => rw [uPl, List.length_cons, List.length_cons, ih]
set_option maxRecDepth 100000 in
set_option maxHeartbeats 1000000 in
theorem all_any {s : ByteArray} {w : World} : Calls Tryz.prog 139 #[.string s] w fun e w' => e = .returned (.func (.func 166) #[] #[.pointer (some ⟨w.heap.size, 0, none⟩)]) ∧ w' = w.alloc (.cells #[.string s] 9) := by
  go_enter Tryz.func139, Tryz.ntmps139
  go_wp2
  go_ret
  exact ⟨rfl, rfl⟩
def UKp (Bn n₀ : Nat) (W W' : World) : Prop := Below n₀ W W' ∧ ∀ v, Boxed W Bn 9 v → Boxed W' Bn 9 v
theorem ukp_t {Bn n₀ : Nat} : ∀ {A B C : World}, UKp Bn n₀ A B → UKp Bn n₀ B C → UKp Bn n₀ A C := fun h g => ⟨h.1.trans g.1, fun v hv => g.2 v (h.2 v hv)⟩
theorem ukp_b {Bn n₀ : Nat} {w : World} (h : n₀ ≤ w.heap.size) (hb : Bn < w.heap.size) (W : World) (l : Nat) (o o' : Obj) (hl : w.heap.size ≤ l) (ho : W.heap[l]? = some o) (h1 : o.isCells = false) (h2 : o.isWalk = false) : UKp Bn n₀ W (W.putObj l o') :=
  ⟨belowK_b h W l o o' hl ho h1 h2, fun v hv => hv.kept (grownBy_putObj' _ l o') (fun e => by cases e; omega)⟩
set_option maxRecDepth 100000 in
set_option maxHeartbeats 4000000 in
theorem all1_in {n l Bn n₀ : Nat} {s : ByteArray} {es ps t : List Int} (hn : 1 ≤ n) (hb : uByt es) (hs : s = strOfNums es) (hl : es.length ≤ 9223372036854775807) (hS : USplit es ps t) (J Jx : List UPair → World → Prop)
    (hY : ∀ pre x W, J pre W → pre.length < ps.length → YieldAt Fence.wide (n - 1) Tryz.prog l (uEncs x) W fun e W' =>
      (e = .returned (.bool true) ∧ J (pre ++ [x]) W' ∧ UKp Bn n₀ W W') ∨ (e = .returned (.bool false) ∧ Jx (pre ++ [x]) W'))
    (W : World) (hBn : Boxed W Bn 9 (.string s)) (h0 : J [] W) :
    CallsIn Fence.wide n Tryz.prog 166 #[.func (.yield l) #[] #[], .pointer (some ⟨Bn, 0, none⟩)] W fun e W' => (∃ v, e = .returned v) ∧
      ((∃ ys : List UPair, ys.map Subtype.val = uPl 0 ps ∧ J ys W') ∨ (∃ pre : List UPair, pre.map Subtype.val <+: uPl 0 ps ∧ Jx pre W')) := by
  have hsz : s.size = es.length := by rw [hs, strOfNums_size]
  have HF := hide (show ∀ (at_ : Int) (w : World), Calls Tryz.prog 167 #[.string s, .int .i64 at_] w fun e w' => e = .returned (.tuple #[.int .i32 (uFst es at_).1, .int .i64 ((uFst es at_).2 : Nat), .bool ((uFst es at_).2 != 0)]) ∧ w' = w from fun at_ w => first_any hb hs hl)
  obtain ⟨L, hL⟩ : ∃ L, es.length = L := ⟨_, rfl⟩
  rw [hL] at hsz hl
  have HL := hide hL
  have HY := hide hY
  have HS := hide hS
  clear hs hL hb hY hS
  refine callsIn_of_wp Tryz.func166 rfl trivial ?_ rfl
  simp only [Tryz.ntmps166, List.size_toArray, List.length_cons, List.length_nil, Nat.reduceAdd, Nat.reduceSub, Array.replicate_succ, Array.replicate_zero, List.push_toArray, List.append_toArray, List.nil_append, List.cons_append]
  gi_wp2
  gi_loopw [3] (fun i wr => ∃ (pre : List UPair) (ds rest : List Int), i = .int .i64 ((uFlat ds).length : Nat) ∧ Hid (ps = ds ++ rest) ∧ Hid (pre.map Subtype.val = uPl 0 ds) ∧ Boxed wr Bn 9 (.string s) ∧ J pre wr)
    (fun i wr => L - (intOf i).toNat)
  case atStart => exact ⟨[], [], ps, rfl, hide rfl, hide rfl, hBn, h0⟩
  case round =>
    obtain ⟨pre, ds, rest, rfl, hp, hpre, hbx, hJ⟩ := hrel
    have hc := hbx.cell
    have HBX := hide hbx
    clear hbx
    have hSp : USplit es (ds ++ rest) t := by rw [← hp.out]; exact HS.out
    have hat := hSp.at
    have hle : (uFlat ds).length ≤ L := by rw [← HL.out, hSp.eq, uFlat_append, List.append_assoc, List.length_append]; omega
    cases rest with
    | nil =>
      rw [uFlat_nil, List.nil_append] at hat
      have hbad := hSp.bad
      obtain ⟨m, hm⟩ : ∃ m, (uFlat ds).length = m := ⟨_, rfl⟩
      rw [hm] at hat hle ⊢
      have Hat := hide hat
      have Hb := hide hbad
      have HSp := hide hSp
      clear hat hbad hSp hm
      by_cases hlt : m < L
      · have q : (m : Int) < (L : Int) := by omega
        have hz : uFst es (m : Int) = (0, 0) := by rw [uFst_in (by rw [HL.out]; exact hlt), Hat.out]; exact uDec_zero Hb.out
        have HZ := hide hz
        clear hz
        gi_wp2_with fail
        refine ⟨trivial, (callsIn_wide.2 (HF.out _ _)).mono ?_⟩
        rintro e w' ⟨rfl, rfl⟩
        rw [HZ.out]
        gi_wp2
        all_goals
          refine ⟨fun _ h => (by cases h), ?_⟩
          gi_wp2
          refine bodyPost_ret (results_none rfl _ _ _) rfl ?_
          exact ⟨⟨_, rfl⟩, .inl ⟨pre, by rw [hpre.out, hp.out, List.append_nil], hJ⟩⟩
      · have q : ¬ (m : Int) < (L : Int) := by omega
        gi_wp2
        go_end0
        exact ⟨⟨_, rfl⟩, .inl ⟨pre, by rw [hpre.out, hp.out, List.append_nil], hJ⟩⟩
    | cons p rest =>
      have hst := hSp.rest.step
      have hpt : uPt p = true := hSp.rest.pts.cons.1
      have hpos := uEnc_pos p
      have hall : (uFlat (ds ++ [p])).length ≤ L := by
        rw [← HL.out, hSp.eq, show ds ++ p :: rest = (ds ++ [p]) ++ rest by simp, uFlat_append (ds ++ [p]), List.append_assoc, List.length_append]; omega
      rw [uFlat_snoc, List.length_append] at hall
      have hpl : Hid (uPl 0 (ds ++ [p]) = uPl 0 ds ++ [(((uFlat ds).length : Int), p)]) := by rw [uPl_append]; simp [uPl, Hid]
      have hfs := uFlat_snoc ds p
      obtain ⟨m, hm⟩ : ∃ m, (uFlat ds).length = m := ⟨_, rfl⟩
      rw [hm] at hst hle hall hpl ⊢
      have Hfs := hide (show (uFlat (ds ++ [p])).length = m + (uEnc p).length by rw [hfs, List.length_append, hm])
      have hsz2 := uSz_pt hpt
      obtain ⟨z, hz⟩ : ∃ z, (uEnc p).length = z := ⟨_, rfl⟩
      rw [hz] at hst hpos hall hsz2 Hfs
      have HZ := hide (show uFst es (m : Int) = (p, z) by rw [uFst_in (by rw [HL.out]; omega)]; exact hst)
      have HSp := hide hSp
      clear hat hSp hm hz hfs hst
      have q : (m : Int) < (L : Int) := by omega
      have qz : ((z != 0) : Bool) = true := by simp; omega
      obtain ⟨fn, tmps, assign, body, hy, hR⟩ := HY.out pre ⟨((m : Int), p), hpt, by simp, by simp only [hsz2]; omega⟩ wr hJ (by have := congrArg List.length hpre.out; rw [List.length_map, uPl_len] at this; rw [this, hp.out]; simp)
      dsimp only [uEncs] at hy
      gi_wp2_with fail
      refine ⟨trivial, (callsIn_wide.2 (HF.out _ _)).mono ?_⟩
      rintro e w' ⟨rfl, rfl⟩
      rw [HZ.out]
      gi_wp2
      refine hR.mono ?_
      rintro e W3 (⟨rfl, hJ3, hk3⟩ | ⟨rfl, hJx3⟩)
      · have hc3 := hide (hk3.2 _ HBX.out)
        gi_wp2
        go_roundw
        case rel => exact ⟨_, ds ++ [p], rest, by rw [Hfs.out]; simp, hide (by rw [hp.out]; simp), hide (by rw [List.map_append, hpre.out, hpl.out]; rfl), hc3.out, hJ3⟩
        case measure => simp [intOf]; omega
      · gi_wp2
        refine bodyPost_ret (results_none rfl _ _ _) rfl ?_
        refine ⟨⟨_, rfl⟩, .inr ⟨_, ⟨uPl (m + z) rest, ?_⟩, hJx3⟩⟩
        rw [hp.out, show ds ++ p :: rest = (ds ++ [p]) ++ rest by simp, uPl_append, Hfs.out, hpl.out, List.map_append, hpre.out, Nat.zero_add]
        rfl
theorem all_stops {n Bn n₀ : Nat} {s : ByteArray} {es ps t : List Int} {w : World} (hn : 1 ≤ n) (hb : uByt es) (hs : s = strOfNums es) (hl : es.length ≤ 9223372036854775807) (hS : USplit es ps t) (hc : Boxed w Bn 9 (.string s)) :
    SeqStopsK Fence.wide n Tryz.prog 166 #[.pointer (some ⟨Bn, 0, none⟩)] uEncs (UKp Bn n₀) (fun ys => ys.map Subtype.val = uPl 0 ps) (fun pre => pre.map Subtype.val <+: uPl 0 ps) ps.length w := fun l J Jx W hW _ _ hY h0 =>
  all1_in hn hb hs hl hS J Jx hY W ((hW.block Bn hc.lt).trans hc) h0
def uEnd (pre : List UPair) : Int := match pre.getLast? with | none => 0 | some x => x.1.1 + uSz x.1.2
theorem uEnd_snoc (pre : List UPair) (x : UPair) : uEnd (pre ++ [x]) = x.1.1 + uSz x.1.2 := by simp [uEnd]
theorem uEnd_all {ys : List UPair} {ps : List Int} (h : ys.map Subtype.val = uPl 0 ps) (hp : uPts ps) : uEnd ys = ((uFlat ps).length : Nat) := by
  rcases List.eq_nil_or_concat ps with rfl | ⟨qs, p, rfl⟩
  · have : ys = [] := by simpa [uPl] using h
    subst this; rfl
  · rcases List.eq_nil_or_concat ys with rfl | ⟨zs, z, rfl⟩
    · simp [List.concat_eq_append, uPl_append, uPl] at h
    · simp only [List.concat_eq_append] at h ⊢
      rw [uEnd_snoc]
      rw [uPl_append, List.map_append] at h
      have e := (List.append_inj' h (by simp [uPl])).2
      simp [uPl] at e
      rw [e, uFlat_snoc, List.length_append]
      simp only
      rw [uSz_pt (hp p (by simp))]
      omega
set_option maxRecDepth 100000 in
set_option maxHeartbeats 4000000 in
theorem bad_any {s : ByteArray} {es ps t : List Int} {w : World} (hb : uByt es) (hs : s = strOfNums es) (hl : es.length ≤ 9223372036854775807) (hS : USplit es ps t) :
    Calls Tryz.prog 109 #[.string s] w fun e w' => e = .returned (.int .i64 ((uFlat ps).length : Nat)) ∧ Below w.heap.size w w' := by
  have HS := hide hs
  have hst : ∀ (W0 : World) (Bn n₀ : Nat), Boxed W0 Bn 9 (.string s) → SeqStopsK Fence.wide 2 Tryz.prog 166 #[.pointer (some ⟨Bn, 0, none⟩)] uEncs (UKp Bn n₀) (fun ys => ys.map Subtype.val = uPl 0 ps) (fun pre => pre.map Subtype.val <+: uPl 0 ps) ps.length W0 := fun _ _ _ h3 => all_stops (by omega) hb hs hl hS h3
  have HST := hide hst
  have HP := hide hS.pts
  clear hs hst hS hb
  refine (callsIn_wide (n := 3)).1 ?_
  refine callsIn_of_wp_marks Tryz.func109 rfl trivial ?_ rfl
  simp only [Tryz.ntmps109, List.size_toArray, List.length_cons, List.length_nil, Nat.reduceAdd, Nat.reduceSub, Array.replicate_succ, Array.replicate_zero, List.push_toArray, List.append_toArray, List.nil_append, List.cons_append]
  gi_wp2_with fail
  refine ⟨trivial, (callsIn_wide.2 all_any).mono ?_⟩
  rintro e w' ⟨rfl, rfl⟩
  gi_wp2_with fail
  have bO := Boxed.new w 3 (.int .i64 0)
  have bN := Boxed.new (w.alloc (.cells #[.int .i64 0] 3)) 9 (.string s)
  rw [World.size_alloc] at bN
  have hB0 : Below w.heap.size w ((w.alloc (.cells #[.int .i64 0] 3)).alloc (.cells #[.string s] 9)) := ((Below.refl _ w).alloc (Nat.le_refl _) _).alloc (by simp) _
  refine wpIn_rangeFunc_ownG rfl (by omega) (gf := 166) (lb := #[.pointer (some ⟨w.heap.size + 1, 0, none⟩)]) (by simp [go_sem]) trivial (enters_of Tryz.func166 (by kernel_rfl) rfl)
    (HST.out _ _ w.heap.size bN) ukp_t (ukp_b (by simp; omega) (by simp)) (Below.refl _ _) (fun _ => rfl)
    (fun pre W => Boxed W w.heap.size 3 (.int .i64 (uEnd pre)) ∧ Below w.heap.size w W)
    (fun _ _ _ => False)
    (OwnFrom.and (Own.from (boxed_own _ _ _) _) (ownFrom_below (Nat.le_refl _) (by simp; omega)))
    (fun _ _ _ _ _ hs _ _ => hs)
    ⟨bO.alloc _, hB0⟩
    (fun x => { tmps := #[.string s, undef, .int .i64 0, .pointer (some ⟨w.heap.size, 0, none⟩), .int .i64 x.1.1, .int .i32 x.1.2, .string s, .func (.func 166) #[] #[.pointer (some ⟨w.heap.size + 1, 0, none⟩)], .int .i64 x.1.1, .int .i32 x.1.2, undef, undef, undef, undef, undef], defers := [] }) ?assign ?body ?done ?stop
  case assign =>
    intro l x W K hK
    gi_wp2
    exact hK
  case body =>
    rintro l pre x W ⟨hv, hB⟩ hlt
    have hc := hv.cell
    have hf := hv.frozen
    obtain ⟨⟨p1, p2⟩, hx1, hx2, hx3⟩ := x
    simp only at hx1 hx2 hx3 ⊢
    gi_wp2_with fail
    refine ⟨trivial, (CallsIn.inRound l (callsIn_wide.2 usize_any)).mono ?_⟩
    rintro e w' ⟨rfl, rfl⟩
    gi_wp2
    refine ⟨(KeepsOthers.setCell _ _ _).from _, ⟨(Below.refl _ _).setCell (p := ⟨w.heap.size, 0, none⟩) (Nat.le_refl _) _, fun v h => h.other (by omega) _⟩, ?_, hB.setCell (p := ⟨w.heap.size, 0, none⟩) (Nat.le_refl _) _⟩
    rw [uEnd_snoc]
    exact hv.set _
  case done =>
    rintro D ys W hD hys ⟨hv, hB⟩ hK
    have hc := hv.cell
    rw [uEnd_all hys HP.out] at hc
    gi_wp2
    refine ⟨by simp, .inl ⟨_, _, rfl, run_takeDeferred hK, ?_⟩⟩
    exact ⟨_, results_tmp rfl _ _ _, rfl, hB.trans (belowK_b (w := w) (Nat.le_refl _) W D _ _ (by simp at hD; omega) hK rfl rfl)⟩
  case stop =>
    rintro D c pre W _ _ h _
    exact h.elim
end Go.Proofs.YticmlelalbaalaaGreatDoor
