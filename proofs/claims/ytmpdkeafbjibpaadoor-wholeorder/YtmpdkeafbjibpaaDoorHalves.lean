/- nat.byHalves, if nat.Mul keeps its promise of shorter lists -/
import Derived.Test.YtmpdkeafbjibpaaDoorInto
import Derived.Test.YtmpdkeafbjibpaaDoorAdd
import Derived.Test.YtmpdkeafbjibpaaDoorSub
import Derived.Test.YtmpdkeafbjibpaaDoorNorm
import Derived.Deep.Cut
import Derived.Deep.CutRange
import Derived.Deep.RegionHeld3
namespace Go.Proofs.YtmpdkeafbjibpaaDoor
open Go.RowKit

def MulOk (N : Nat) : Prop := ∀ (w : World) (va vb : Value) (n m : Int) (ka kb : Nat), Arg w va n ka → Arg w vb m kb → ka ≤ 549755813888 → kb ≤ 549755813888 → ka < N ∨ kb < N →
  Calls Tryd.prog 26 #[va, vb] w fun e w' => ∃ v, e = .returned v ∧ Num w.heap.size w' v (n * m) (ka + kb) ∧ Below w.heap.size w w'

theorem arg_slice {w : World} {ao : Option Addr} {xs : List Int} {n cap : Nat} (hl : xs.length = n) (hc : n ≤ cap) (hm : cap ≤ maxLen) (h : Cells .u32 w ao xs) (ho : Nt.Ok xs) : Arg w (.slice ao n cap) (Nt.val xs) n := by
  subst hl
  exact ⟨xs, ⟨ao, cap, rfl, hc, hm, h⟩, ho, rfl, Nat.le_refl _⟩

theorem Num.low {B B' : Nat} {w : World} {v : Value} {n : Int} {k : Nat} (h : Num B w v n k) (hB : B' ≤ B) : Num B' w v n k := by
  obtain ⟨zs, ⟨ao, h1, h2, h3⟩, hr⟩ := h
  refine ⟨zs, ⟨ao, h1, h2, fun hp => ?_⟩, hr⟩
  obtain ⟨g, rest, h4, h5, h6⟩ := h3 hp
  exact ⟨g, rest, h4, Nat.le_trans hB h5, h6⟩

/-- copy into a row of numbers, by lists of numbers -/
theorem wpList_copy_row {ops : Array Oper} {rest : List Oper} {o : Oper} {a : Act} {w : World} {Q : Exit → Act → World → Prop} (hg : o.guard = none) (d s : Operand)
    (ho : o.op = .call { callee := .builtin .copy, args := #[d, s], argTypes := #[23, 23] }) (da sa : Option Addr) (dl dc sl sc : Nat) (hd : a.eval d = .slice da dl dc) (hs : a.eval s = .slice sa sl sc)
    (g off : Nat) (os zs : List Int) (hr : Row .u32 59 w g os) (hda : 0 < zs.length → da = some ⟨g, off, none⟩) (hz : Cells .u32 w sa zs) (hl : zs.length = sl) (hdl : sl ≤ dl) (hfit : off + sl ≤ os.length) (w0 : World) (hb : Below g w0 w) (ls : List Int) (hls : os.take off ++ (zs ++ os.drop (off + zs.length)) = ls)
    (hK : ∀ w', Row .u32 59 w' g ls → Below g w0 w' → wpList Tryd.prog ops Q rest (a.put o.dst (goInt zs.length)) w') : wpList Tryd.prog ops Q (o :: rest) a w := by
  refine wpList_copy_splice hg d s 23 23 ho 59 Tryd.underlying23 Tryd.sizeU32 da sa dl dc sl sc hd hs g off (os.map (Value.int .u32)) 59 hr (zs.map (Value.int .u32)) (by rw [List.length_map]; unfold Nat.min; omega) ?_ (by simp only [List.length_map]; omega) (ints_oneCell _ _) g w0 hb (Nat.le_refl _) ?_
  · intro hp
    rw [List.length_map] at hp
    obtain ⟨b, o1, rfl, h2, h3⟩ := hz hp
    refine ⟨hda hp, _, rfl, fun j v hv => ?_⟩
    have hj : j < zs.length := by have := (List.getElem?_eq_some_iff.1 hv).1; rw [List.length_map] at this; exact this
    rw [Addr.add_lit, h3 j hj]
    simp [hj] at hv
    rw [← hv]; simp [Nt.lb, hj]
  · intro w' h1 h2
    have h := h1.out
    rw [List.length_map]
    refine hK w' ?_ h2
    rw [← hls]
    unfold Row
    rw [h]
    unfold splice
    simp [List.map_take, List.map_drop]

theorem splice_first (n : Nat) (xs : List Int) : (List.replicate n (0 : Int)).take 0 ++ (xs ++ (List.replicate n (0 : Int)).drop (0 + xs.length)) = xs ++ List.replicate (n - xs.length) 0 := by
  rw [List.take_replicate, List.drop_replicate]
  simp

theorem splice_second (n k : Nat) (lo hi : List Int) (h : lo.length ≤ k) (h' : k + hi.length ≤ n) : (lo ++ List.replicate (n - lo.length) (0 : Int)).take k ++ (hi ++ (lo ++ List.replicate (n - lo.length) (0 : Int)).drop (k + hi.length)) = (lo ++ List.replicate (k - lo.length) 0) ++ (hi ++ List.replicate (n - k - hi.length) 0) := by
  rw [List.take_append, List.drop_append, List.take_of_length_le h, List.drop_of_length_le (by omega : lo.length ≤ k + hi.length), List.take_replicate, List.drop_replicate]
  simp only [List.nil_append, List.append_assoc]
  rw [show min (k - lo.length) (n - lo.length) = k - lo.length by omega, show n - lo.length - (k + hi.length - lo.length) = n - k - hi.length by omega]

theorem val_pieces (n k : Nat) (lo hi : List Int) (h : lo.length ≤ k) : Nt.val ((lo ++ List.replicate (k - lo.length) 0) ++ (hi ++ List.replicate (n - k - hi.length) 0)) = Nt.val lo + Nt.pw k * Nt.val hi := by
  rw [Nt.val_append, Nt.val_append, Nt.val_append, Nt.val_replicate, Nt.val_replicate]
  rw [List.length_append, List.length_replicate, show lo.length + (k - lo.length) = k by omega]
  simp

set_option maxHeartbeats 4000000 in
theorem halves_any {N : Nat} (hI : MulOk N) {w : World} {ab aoff ca bb boff cb : Nat} {xs ys : List Int} (hxl : xs.length ≤ ca) (hca : ca ≤ maxLen) (hyl : ys.length ≤ cb) (hcb : cb ≤ maxLen)
    (hxc : Cells .u32 w (some ⟨ab, aoff, none⟩) xs) (hyc : Cells .u32 w (some ⟨bb, boff, none⟩) ys) (hxo : Nt.Ok xs) (hyo : Nt.Ok ys) (hy0 : 0 < ys.length) (h100 : 100 < xs.length) (hyx : ys.length ≤ xs.length) (hN : xs.length ≤ N) (hm : xs.length ≤ 549755813888) :
    Calls Tryd.prog 44 #[.slice (some ⟨ab, aoff, none⟩) xs.length ca, .slice (some ⟨bb, boff, none⟩) ys.length cb] w fun e w' => ∃ (g : Nat) (zs : List Int), e = .returned (.slice (some ⟨g, 0, none⟩) zs.length zs.length) ∧ w.heap.size ≤ g ∧
      Row .u32 59 w' g zs ∧ Nt.Ok zs ∧ zs.length = xs.length + ys.length ∧ Nt.val zs = Nt.val xs * Nt.val ys ∧ Below w.heap.size w w' := by
  unfold MulOk at hI
  obtain ⟨h, hh⟩ : ∃ h, h = xs.length / 2 := ⟨_, rfl⟩
  obtain ⟨c, hc⟩ : ∃ c, c = min h ys.length := ⟨_, rfl⟩
  have hhx : h ≤ xs.length := by omega
  have hcy : c ≤ ys.length := by omega
  have A0 : Arg w (.slice (some ⟨ab, aoff, none⟩) h ca) (Nt.val (xs.take h)) h := arg_slice (by rw [List.length_take]; omega) (by omega) hca (hxc.take hhx) (Nt.ok_take hxo _)
  have A1 : Arg w (.slice (some ⟨ab, aoff + h, none⟩) (xs.length - h) (ca - h)) (Nt.val (xs.drop h)) (xs.length - h) := arg_slice (by rw [List.length_drop]) (by omega) (by omega) (cells_drop hxc h) (Nt.ok_drop hxo _)
  have B0 : Arg w (.slice (some ⟨bb, boff, none⟩) c cb) (Nt.val (ys.take c)) c := arg_slice (by rw [List.length_take]; omega) (by omega) hcb (hyc.take hcy) (Nt.ok_take hyo _)
  obtain ⟨bo1, hbo1⟩ : ∃ bo1 : Option Addr, (if cb = c then some (⟨bb, boff, none⟩ : Addr) else some ⟨bb, boff + c, none⟩) = bo1 := ⟨_, rfl⟩
  have hcb1 : Cells .u32 w bo1 (ys.drop c) := by
    rw [← hbo1]
    split
    · intro hp; rw [List.length_drop] at hp; omega
    · exact cells_drop hyc c
  have B1 : Arg w (.slice bo1 (ys.length - c) (cb - c)) (Nt.val (ys.drop c)) (ys.length - c) := arg_slice (by rw [List.length_drop]) (by omega) (by omega) hcb1 (Nt.ok_drop hyo _)
  have j1 : (xs.length : Int) / 2 = (h : Int) := by omega
  have j2 : (if ys.length < h then (ys.length : Int) else (h : Int)) = (c : Int) := by split <;> omega
  have i1 : h ≤ ca := by omega
  have i2 : c ≤ cb := by omega
  have i3 : ¬ ca = h := by omega
  have n1 : (0 : Int) ≤ (h : Int) := by omega
  have n2 : (h : Int) ≤ (ca : Int) := by omega
  have n3 : (h : Int) ≤ (xs.length : Int) := by omega
  have n4 : (0 : Int) ≤ (c : Int) := by omega
  have n5 : (c : Int) ≤ (cb : Int) := by omega
  have n6 : (c : Int) ≤ (ys.length : Int) := by omega
  have HH := hide hh
  have HC := hide hc
  clear hh hc
  go_enter Tryd.func44, Tryd.ntmps44
  go_upto_region 3 with fail
  go_cut [7] from 11 (fun s w1 => ∃ v, s = v ∧ Num w.heap.size w1 v (Nt.val (xs.take h) * Nt.val (ys.take c)) (h + c) ∧ Below w.heap.size w w1)
  case first =>
    go_region_held3 (fun _ => True) (trivial) (first | (go_at_call 26; refine (hI _ _ _ _ _ _ _ (A0.below (Below.refl _ _).drew) (B0.below (Below.refl _ _).drew) (by omega) (by omega) (by omega)).mono ?_; rintro e w1 ⟨v, rfl, hn, hb⟩))
    all_goals go_wp2_with fail
    all_goals go_meet
    all_goals exact ⟨_, rfl, hn, below_trans (Below.refl _ _).drew hb⟩
  case rest =>
  obtain ⟨vl, rfl, hnl, hb1⟩ := hcut
  rename World => w1
  replace A0 := A0.below hb1
  replace A1 := A1.below hb1
  replace B0 := B0.below hb1
  replace B1 := B1.below hb1
  go_upto_region 4 with fail
  go_cut [8] from 11 (fun s w2 => ∃ v, s = v ∧ Num w1.heap.size w2 v (Nt.val (xs.drop h) * Nt.val (ys.drop c)) ((xs.length - h) + (ys.length - c)) ∧ Below w1.heap.size w1 w2)
  case first =>
    go_region_held3 (fun _ => True) (trivial) (first | (go_at_call 26; refine (hI _ _ _ _ _ _ _ (A1.below (Below.refl _ _).drew) (B1.below (Below.refl _ _).drew) (by omega) (by omega) (by omega)).mono ?_; rintro e w2 ⟨v, rfl, hn, hb⟩))
    all_goals go_wp2_with fail
    all_goals go_meet
    all_goals exact ⟨_, rfl, hn, below_trans (Below.refl _ _).drew hb⟩
  case rest =>
  obtain ⟨vh, rfl, hnh, hb2⟩ := hcut
  rename World => w2
  replace A0 := A0.below hb2
  replace A1 := A1.below hb2
  replace B0 := B0.below hb2
  replace B1 := B1.below hb2
  have hnl2 := hnl.below hb2
  have hb02 := below_trans hb1 hb2
  clear hnl hb1 hb2
  go_upto_region 5 with fail
  go_cut [9] from 11 (fun s w3 => ∃ v, s = v ∧ Num w2.heap.size w3 v ((Nt.val (xs.take h) + Nt.val (xs.drop h)) * (Nt.val (ys.take c) + Nt.val (ys.drop c))) ((max h (xs.length - h) + 1) + (max c (ys.length - c) + 1)) ∧ Below w2.heap.size w2 w3)
  case first =>
    have hd : Below w2.heap.size w2 w2.drew := (Below.refl _ _).drew
    go_region_held3 (fun _ => True) (trivial) (first
      | (go_at_call 26
         first
           | (with_reducible refine (hI _ _ _ _ _ _ _ (hna.arg.below hbb) hnb.arg (by omega) (by omega) (by omega)).mono ?_; rintro e w2 ⟨v, rfl, hn, hb⟩)
           | (with_reducible refine (hI _ _ _ _ _ _ _ hna.arg (hnb.arg.below hba) (by omega) (by omega) (by omega)).mono ?_; rintro e w2 ⟨v, rfl, hn, hb⟩))
      | (go_at_call 40
         first
           | (with_reducible refine (add_any (A0.below hd) (A1.below hd) (by omega) (by omega)).mono ?_; rintro e wa ⟨va, rfl, hna, hba⟩)
           | (with_reducible refine (add_any (A0.below (below_trans hd hbb)) (A1.below (below_trans hd hbb)) (by omega) (by omega)).mono ?_; rintro e wa ⟨va, rfl, hna, hba⟩)
           | (with_reducible refine (add_any (B0.below hd) (B1.below hd) (by omega) (by omega)).mono ?_; rintro e wb ⟨vb, rfl, hnb, hbb⟩)
           | (with_reducible refine (add_any (B0.below (below_trans hd hba)) (B1.below (below_trans hd hba)) (by omega) (by omega)).mono ?_; rintro e wb ⟨vb, rfl, hnb, hbb⟩)))
    all_goals go_wp2_with fail
    all_goals go_meet
    all_goals first
      | exact ⟨_, rfl, hn.low (Nat.le_trans hba.size hbb.size), below_trans (below_trans hd hba) (below_trans hbb hb)⟩
      | exact ⟨_, rfl, hn.low (Nat.le_trans hbb.size hba.size), below_trans (below_trans hd hbb) (below_trans hba hb)⟩
  case rest =>
  obtain ⟨vm, rfl, hnm, hb3⟩ := hcut
  rename World => w3
  replace hnl2 := hnl2.below hb3
  have hnh2 := hnh.below hb3
  have hb03 := below_trans hb02 hb3
  clear hnh hb3 hb02 A0 A1 B0 B1
  go_wp2_with fail
  refine (add_any hnl2.arg hnh2.arg (by omega) (by omega)).mono ?_
  rintro e w4 ⟨vs, rfl, hns, hb4⟩
  have hge : Nt.val (xs.take h) * Nt.val (ys.take c) + Nt.val (xs.drop h) * Nt.val (ys.drop c) ≤ (Nt.val (xs.take h) + Nt.val (xs.drop h)) * (Nt.val (ys.take c) + Nt.val (ys.drop c)) :=
    Nt.kara_mid (Nt.val_nonneg (Nt.ok_take hxo _)) (Nt.val_nonneg (Nt.ok_drop hxo _)) (Nt.val_nonneg (Nt.ok_take hyo _)) (Nt.val_nonneg (Nt.ok_drop hyo _))
  have Hge := hide hge
  clear hge
  go_wp2_with fail
  refine (sub_yes (hnm.arg.below hb4) hns.arg (by omega) (by omega) Hge.out).mono ?_
  rintro e w5 ⟨vd, rfl, hnd, hb5⟩
  replace hnl2 := (hnl2.below hb4).below hb5
  replace hnh2 := (hnh2.below hb4).below hb5
  have hb05 := below_trans (below_trans hb03 hb4) hb5
  clear hns hnm hb4 hb5 hb03
  go_wp2_with (at_make; refine wpList_make_row _ rfl _ _ 23 rfl 59 .u32 4 Tryd.underlying23 Tryd.infoU32 _ _ _ _ (xs.length + ys.length) (xs.length + ys.length) rfl rfl (by omega) (by omega) (Nat.le_refl _) (by omega) (by unfold maxLen; omega) ?_)
  intro w6 hr6 hb6 hsz
  obtain ⟨lo, ⟨lao, rfl, hlm, hlr⟩, hlc, hlv, hll⟩ := hnl2
  obtain ⟨hi, ⟨hao, rfl, hhm, hhr⟩, hhc, hhv, hhl⟩ := hnh2
  obtain ⟨md, hmm, hmc, hmv, hml⟩ := hnd
  have hmr : Reads .u32 w6 vd md := hmm.reads.below hb6
  obtain ⟨mo, mcap, rfl, hmcl, hmcm, hmcc⟩ := hmr
  have hlcell : Cells .u32 w5 lao lo := fun hp => by
    obtain ⟨g, rest, h4, _, h5⟩ := hlr hp
    exact ⟨g, 0, h4, h5.lt, fun i hi => by rw [Nat.zero_add, h5.cell (by rw [List.length_append]; omega), lb_append_left hi]⟩
  have hhcell : Cells .u32 w5 hao hi := fun hp => by
    obtain ⟨g, rest, h4, _, h5⟩ := hhr hp
    exact ⟨g, 0, h4, h5.lt, fun i hi => by rw [Nat.zero_add, h5.cell (by rw [List.length_append]; omega), lb_append_left hi]⟩
  have hmcell : Cells .u32 w5 mo md := by
    obtain ⟨ao, e, _, h3⟩ := hmm
    injection e with e1 e2 e3
    subst e1
    intro hp
    obtain ⟨g, rest, h4, _, h5⟩ := h3 hp
    exact ⟨g, 0, h4, h5.lt, fun i hi => by rw [Nat.zero_add, h5.cell (by rw [List.length_append]; omega), lb_append_left hi]⟩
  have hhz : 2 * h + hi.length ≤ xs.length + ys.length := by
    have h1 := HH.out
    have h2 := HC.out
    by_cases e : ys.length ≤ h
    · have h3 : c = ys.length := by omega
      have h4 : Nt.val (ys.drop c) = 0 := by rw [h3, List.drop_length]; rfl
      rw [h4, Int.mul_zero] at hhv
      have h5 := (Nt.canon_zero hhc).1 hhv
      rw [h5]
      simp only [List.length_nil]
      omega
    · omega
  have hlz : lo.length ≤ 2 * h := by have := HC.out; omega
  clear hlr hhr hmm hmcc
  have q1 : 2 * h < xs.length + ys.length := by omega
  have q2 : ¬ xs.length + ys.length = 2 * h := by omega
  have q3 : ¬ xs.length + ys.length = h := by omega
  have q4 : h < xs.length + ys.length := by omega
  have q5 : IntKind.i64.wrap (2 * (h : Int)) = 2 * (h : Int) := by rw [IntKind.wrap_i64]; omega
  obtain ⟨l1, hl1⟩ : ∃ l1, (List.replicate (xs.length + ys.length) (0 : Int)).take 0 ++ (lo ++ (List.replicate (xs.length + ys.length) (0 : Int)).drop (0 + lo.length)) = l1 := ⟨_, rfl⟩
  have Hl1 := hide hl1
  rw [splice_first] at hl1
  obtain ⟨os, hos0⟩ : ∃ os, l1.take (2 * h) ++ (hi ++ l1.drop (2 * h + hi.length)) = os := ⟨_, rfl⟩
  have Hos0 := hide hos0
  rw [← hl1, splice_second _ _ _ _ hlz hhz] at hos0
  have hos : Nt.Ok os := by rw [← hos0]; exact Nt.ok_append (Nt.ok_append hlc.1 (Nt.ok_replicate _)) (Nt.ok_append hhc.1 (Nt.ok_replicate _))
  have hvs := val_pieces (xs.length + ys.length) (2 * h) lo hi hlz
  have hls : os.length = xs.length + ys.length := by rw [← hos0]; simp; omega
  have hl1l : l1.length = xs.length + ys.length := by rw [← hl1]; simp; omega
  have HL1 := hide hl1l
  rw [hos0] at hvs
  clear hl1 hos0 hl1l
  have hsum : Nt.val os + Nt.val md * Nt.pw h = Nt.val xs * Nt.val ys := by
    rw [hvs, hlv, hhv, hmv, Nt.val_split hhx]
    have hys : Nt.val ys = Nt.val (ys.take c) + Nt.pw h * Nt.val (ys.drop c) := by
      have h2 := HC.out
      by_cases e : ys.length ≤ h
      · rw [show c = ys.length by omega, List.take_length, List.drop_length]; simp [Nt.val_nil]
      · rw [← show c = h by omega]; exact Nt.val_split hcy
    rw [hys, show 2 * h = h + h by omega, Nt.pw_add]
    exact Nt.kara _ _ _ _ _
  have hfit : Nt.val os + Nt.val md * Nt.pw h < Nt.pw os.length := by
    rw [hsum, hls]; exact Nt.prod_lt hxo hyo
  have HSum := hide hsum
  have Hls := hide hls
  have Hfit := hide hfit
  clear hsum hls hfit hvs hlv hhv hmv
  go_wp2_with (refine wpList_copy_row rfl (.tmp 61) (.tmp 62) rfl (some ⟨w5.heap.size, 0, none⟩) lao (xs.length + ys.length) (xs.length + ys.length) lo.length lo.length rfl rfl w5.heap.size 0 (List.replicate (xs.length + ys.length) 0) lo hr6 (fun _ => rfl) (hlcell.below hb6) rfl (by omega) (by rw [List.length_replicate]; omega) w5 hb6 l1 Hl1.out ?_)
  intro w7 hr7 hb7
  go_wp2_with (refine wpList_copy_row rfl (.tmp 67) (.tmp 68) rfl (some ⟨w5.heap.size, 2 * h, none⟩) hao (xs.length + ys.length - 2 * h) (xs.length + ys.length - 2 * h) hi.length hi.length rfl rfl w5.heap.size (2 * h) l1 hi hr7 (fun _ => rfl) (hhcell.below hb7) rfl (by omega) (by rw [HL1.out]; omega) w5 hb7 os Hos0.out ?_)
  intro w8 hr8 hb8
  go_wp2_with fail
  refine (into_any (off := h) (L := xs.length + ys.length - h) (bs := md) hr8 hos (by rw [Hls.out]; omega) (by rw [Hls.out]; omega) (fun _ => rfl) hmcl hmcm (hmcell.below hb8) hmc.1 (away_below hmcell (Nat.le_refl _)) Hfit.out).mono ?_
  rintro e w9 ⟨zs, rfl, hzl, hzo, hzv, hrow, honly⟩
  have hfin := hzv.trans HSum.out
  have hzn : zs.length = xs.length + ys.length := by rw [hzl, Hls.out]
  have hb9 : Below w.heap.size w w9 := below_trans hb05 (hb8.trans (honly.below (Nat.le_refl _) hb8.size))
  have HF := hide hfin
  have HZ := hide hzn
  clear hzl hzv hfin hzn honly
  go_wp2
  go_ret
  exact ⟨w5.heap.size, zs, by rw [HZ.out]; rfl, hb05.size, hrow, hzo, HZ.out, HF.out, hb9⟩

end Go.Proofs.YtmpdkeafbjibpaaDoor
