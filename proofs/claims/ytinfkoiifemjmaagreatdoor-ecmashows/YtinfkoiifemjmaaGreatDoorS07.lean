/- Halves, Mul, Div, Pow -/
import Derived.Test.YtinfkoiifemjmaaGreatDoorS03
import Derived.Test.YtinfkoiifemjmaaGreatDoorS02
import Derived.Test.YtinfkoiifemjmaaGreatDoorS04
import Derived.Deep.Cut
import Derived.Deep.CutRange
import Derived.Deep.RegionHeld3
import Derived.Deep.RegionWith
import Derived.Test.YtinfkoiifemjmaaGreatDoorS06
import Derived.Deep.LoopGhost
namespace Go.Proofs.YtinfkoiifemjmaaGreatDoor
open Go.RowKit

def MulOk (N : Nat) : Prop := ∀ (w : World) (va vb : Value) (n m : Int) (ka kb : Nat), Arg w va n ka → Arg w vb m kb → ka ≤ 549755813888 → kb ≤ 549755813888 → ka < N ∨ kb < N →
  Calls Tryz.prog 74 #[va, vb] w fun e w' => ∃ v, e = .returned v ∧ Num w.heap.size w' v (n * m) (ka + kb) ∧ Below w.heap.size w w'

theorem arg_slice {w : World} {ao : Option Addr} {xs : List Int} {n cap : Nat} (hl : xs.length = n) (hc : n ≤ cap) (hm : cap ≤ maxLen) (h : Cells .u32 w ao xs) (ho : Nt.Ok xs) : Arg w (.slice ao n cap) (Nt.val xs) n := by
  subst hl
  exact ⟨xs, ⟨ao, cap, rfl, hc, hm, h⟩, ho, rfl, Nat.le_refl _⟩

theorem Num.low {B B' : Nat} {w : World} {v : Value} {n : Int} {k : Nat} (h : Num B w v n k) (hB : B' ≤ B) : Num B' w v n k := by
  obtain ⟨zs, ⟨ao, h1, h2, h3⟩, hr⟩ := h
  refine ⟨zs, ⟨ao, h1, h2, fun hp => ?_⟩, hr⟩
  obtain ⟨g, rest, h4, h5, h6⟩ := h3 hp
  exact ⟨g, rest, h4, Nat.le_trans hB h5, h6⟩

/-- copy into a row of numbers, by lists of numbers -/
theorem wpList_copy_row {ops : Array Oper} {rest : List Oper} {o : Oper} {a : Act} {w : World} {Q : Exit → Act → World → Prop} (hg : o.guard = none) (d s : Operand)
    (ho : o.op = .call { callee := .builtin .copy, args := #[d, s], argTypes := #[61, 61] }) (da sa : Option Addr) (dl dc sl sc : Nat) (hd : a.eval d = .slice da dl dc) (hs : a.eval s = .slice sa sl sc)
    (g off : Nat) (os zs : List Int) (hr : Row .u32 96 w g os) (hda : 0 < zs.length → da = some ⟨g, off, none⟩) (hz : Cells .u32 w sa zs) (hl : zs.length = sl) (hdl : sl ≤ dl) (hfit : off + sl ≤ os.length) (w0 : World) (hb : Below g w0 w) (ls : List Int) (hls : os.take off ++ (zs ++ os.drop (off + zs.length)) = ls)
    (hK : ∀ w', Row .u32 96 w' g ls → Below g w0 w' → wpList Tryz.prog ops Q rest (a.put o.dst (goInt zs.length)) w') : wpList Tryz.prog ops Q (o :: rest) a w := by
  refine wpList_copy_splice hg d s 61 61 ho 96 Tryz.underlying61 Tryz.sizeU32 da sa dl dc sl sc hd hs g off (os.map (Value.int .u32)) 96 hr (zs.map (Value.int .u32)) (by rw [List.length_map]; unfold Nat.min; omega) ?_ (by simp only [List.length_map]; omega) (ints_oneCell _ _) g w0 hb (Nat.le_refl _) ?_
  · intro hp
    rw [List.length_map] at hp
    obtain ⟨b, o1, rfl, h2, h3⟩ := hz hp
    refine ⟨hda hp, _, rfl, fun j v hv => ?_⟩
    have hj : j < zs.length := by have := (List.getElem?_eq_some_iff.1 hv).1; rw [List.length_map] at this; exact this
    rw [Addr.add_lit, h3 j hj]
    simp [hj] at hv
    rw [← hv]; simp [Nt.lb, hj]
  · intro w' h1 h2
    have h := h1.out
    rw [List.length_map]
    refine hK w' ?_ h2
    rw [← hls]
    unfold Row
    rw [h]
    unfold splice
    simp [List.map_take, List.map_drop]

theorem splice_first (n : Nat) (xs : List Int) : (List.replicate n (0 : Int)).take 0 ++ (xs ++ (List.replicate n (0 : Int)).drop (0 + xs.length)) = xs ++ List.replicate (n - xs.length) 0 := by
  rw [List.take_replicate, List.drop_replicate]
  simp

theorem splice_second (n k : Nat) (lo hi : List Int) (h : lo.length ≤ k) (h' : k + hi.length ≤ n) : (lo ++ List.replicate (n - lo.length) (0 : Int)).take k ++ (hi ++ (lo ++ List.replicate (n - lo.length) (0 : Int)).drop (k + hi.length)) = (lo ++ List.replicate (k - lo.length) 0) ++ (hi ++ List.replicate (n - k - hi.length) 0) := by
  rw [List.take_append, List.drop_append, List.take_of_length_le h, List.drop_of_length_le (by omega : lo.length ≤ k + hi.length), List.take_replicate, List.drop_replicate]
  simp only [List.nil_append, List.append_assoc]
  rw [show min (k - lo.length) (n - lo.length) = k - lo.length by omega, show n - lo.length - (k + hi.length - lo.length) = n - k - hi.length by omega]

theorem val_pieces (n k : Nat) (lo hi : List Int) (h : lo.length ≤ k) : Nt.val ((lo ++ List.replicate (k - lo.length) 0) ++ (hi ++ List.replicate (n - k - hi.length) 0)) = Nt.val lo + Nt.pw k * Nt.val hi := by
  rw [Nt.val_append, Nt.val_append, Nt.val_append, Nt.val_replicate, Nt.val_replicate]
  rw [List.length_append, List.length_replicate, show lo.length + (k - lo.length) = k by omega]
  simp

set_option maxHeartbeats 4000000 in
theorem halves_any {N : Nat} (hI : MulOk N) {w : World} {ab aoff ca bb boff cb : Nat} {xs ys : List Int} (hxl : xs.length ≤ ca) (hca : ca ≤ maxLen) (hyl : ys.length ≤ cb) (hcb : cb ≤ maxLen)
    (hxc : Cells .u32 w (some ⟨ab, aoff, none⟩) xs) (hyc : Cells .u32 w (some ⟨bb, boff, none⟩) ys) (hxo : Nt.Ok xs) (hyo : Nt.Ok ys) (hy0 : 0 < ys.length) (h100 : 100 < xs.length) (hyx : ys.length ≤ xs.length) (hN : xs.length ≤ N) (hm : xs.length ≤ 549755813888) :
    Calls Tryz.prog 113 #[.slice (some ⟨ab, aoff, none⟩) xs.length ca, .slice (some ⟨bb, boff, none⟩) ys.length cb] w fun e w' => ∃ (g : Nat) (zs : List Int), e = .returned (.slice (some ⟨g, 0, none⟩) zs.length zs.length) ∧ w.heap.size ≤ g ∧
      Row .u32 96 w' g zs ∧ Nt.Ok zs ∧ zs.length = xs.length + ys.length ∧ Nt.val zs = Nt.val xs * Nt.val ys ∧ Below w.heap.size w w' := by
  unfold MulOk at hI
  obtain ⟨h, hh⟩ : ∃ h, h = xs.length / 2 := ⟨_, rfl⟩
  obtain ⟨c, hc⟩ : ∃ c, c = min h ys.length := ⟨_, rfl⟩
  have hhx : h ≤ xs.length := by omega
  have hcy : c ≤ ys.length := by omega
  have A0 : Arg w (.slice (some ⟨ab, aoff, none⟩) h ca) (Nt.val (xs.take h)) h := arg_slice (by rw [List.length_take]; omega) (by omega) hca (hxc.take hhx) (Nt.ok_take hxo _)
  have A1 : Arg w (.slice (some ⟨ab, aoff + h, none⟩) (xs.length - h) (ca - h)) (Nt.val (xs.drop h)) (xs.length - h) := arg_slice (by rw [List.length_drop]) (by omega) (by omega) (cells_drop hxc h) (Nt.ok_drop hxo _)
  have B0 : Arg w (.slice (some ⟨bb, boff, none⟩) c cb) (Nt.val (ys.take c)) c := arg_slice (by rw [List.length_take]; omega) (by omega) hcb (hyc.take hcy) (Nt.ok_take hyo _)
  obtain ⟨bo1, hbo1⟩ : ∃ bo1 : Option Addr, (if cb = c then some (⟨bb, boff, none⟩ : Addr) else some ⟨bb, boff + c, none⟩) = bo1 := ⟨_, rfl⟩
  have hcb1 : Cells .u32 w bo1 (ys.drop c) := by
    rw [← hbo1]
    split
    · intro hp; rw [List.length_drop] at hp; omega
    · exact cells_drop hyc c
  have B1 : Arg w (.slice bo1 (ys.length - c) (cb - c)) (Nt.val (ys.drop c)) (ys.length - c) := arg_slice (by rw [List.length_drop]) (by omega) (by omega) hcb1 (Nt.ok_drop hyo _)
  have j1 : (xs.length : Int) / 2 = (h : Int) := by omega
  have j2 : (if ys.length < h then (ys.length : Int) else (h : Int)) = (c : Int) := by split <;> omega
  have i1 : h ≤ ca := by omega
  have i2 : c ≤ cb := by omega
  have i3 : ¬ ca = h := by omega
  have n1 : (0 : Int) ≤ (h : Int) := by omega
  have n2 : (h : Int) ≤ (ca : Int) := by omega
  have n3 : (h : Int) ≤ (xs.length : Int) := by omega
  have n4 : (0 : Int) ≤ (c : Int) := by omega
  have n5 : (c : Int) ≤ (cb : Int) := by omega
  have n6 : (c : Int) ≤ (ys.length : Int) := by omega
  have HH := hide hh
  have HC := hide hc
  clear hh hc
  go_enter Tryz.func113, Tryz.ntmps113
  go_upto_region 3 with fail
  go_cut [7] from 11 (fun s w1 => ∃ v, s = v ∧ Num w.heap.size w1 v (Nt.val (xs.take h) * Nt.val (ys.take c)) (h + c) ∧ Below w.heap.size w w1)
  case first =>
    go_region_held3 (fun _ => True) (trivial) (first | (go_at_call 74; refine (hI _ _ _ _ _ _ _ (A0.below (Below.refl _ _).drew) (B0.below (Below.refl _ _).drew) (by omega) (by omega) (by omega)).mono ?_; rintro e w1 ⟨v, rfl, hn, hb⟩))
    all_goals go_wp2_with fail
    all_goals go_meet
    all_goals exact ⟨_, rfl, hn, below_trans (Below.refl _ _).drew hb⟩
  case rest =>
  obtain ⟨vl, rfl, hnl, hb1⟩ := hcut
  rename World => w1
  replace A0 := A0.below hb1
  replace A1 := A1.below hb1
  replace B0 := B0.below hb1
  replace B1 := B1.below hb1
  go_upto_region 4 with fail
  go_cut [8] from 11 (fun s w2 => ∃ v, s = v ∧ Num w1.heap.size w2 v (Nt.val (xs.drop h) * Nt.val (ys.drop c)) ((xs.length - h) + (ys.length - c)) ∧ Below w1.heap.size w1 w2)
  case first =>
    go_region_held3 (fun _ => True) (trivial) (first | (go_at_call 74; refine (hI _ _ _ _ _ _ _ (A1.below (Below.refl _ _).drew) (B1.below (Below.refl _ _).drew) (by omega) (by omega) (by omega)).mono ?_; rintro e w2 ⟨v, rfl, hn, hb⟩))
    all_goals go_wp2_with fail
    all_goals go_meet
    all_goals exact ⟨_, rfl, hn, below_trans (Below.refl _ _).drew hb⟩
  case rest =>
  obtain ⟨vh, rfl, hnh, hb2⟩ := hcut
  rename World => w2
  replace A0 := A0.below hb2
  replace A1 := A1.below hb2
  replace B0 := B0.below hb2
  replace B1 := B1.below hb2
  have hnl2 := hnl.below hb2
  have hb02 := below_trans hb1 hb2
  clear hnl hb1 hb2
  go_upto_region 5 with fail
  go_cut [9] from 11 (fun s w3 => ∃ v, s = v ∧ Num w2.heap.size w3 v ((Nt.val (xs.take h) + Nt.val (xs.drop h)) * (Nt.val (ys.take c) + Nt.val (ys.drop c))) ((max h (xs.length - h) + 1) + (max c (ys.length - c) + 1)) ∧ Below w2.heap.size w2 w3)
  case first =>
    have hd : Below w2.heap.size w2 w2.drew := (Below.refl _ _).drew
    go_region_held3 (fun _ => True) (trivial) (first
      | (go_at_call 74
         first
           | (with_reducible refine (hI _ _ _ _ _ _ _ (hna.arg.below hbb) hnb.arg (by omega) (by omega) (by omega)).mono ?_; rintro e w2 ⟨v, rfl, hn, hb⟩)
           | (with_reducible refine (hI _ _ _ _ _ _ _ hna.arg (hnb.arg.below hba) (by omega) (by omega) (by omega)).mono ?_; rintro e w2 ⟨v, rfl, hn, hb⟩))
      | (go_at_call 118
         first
           | (with_reducible refine (add_any (A0.below hd) (A1.below hd) (by omega) (by omega)).mono ?_; rintro e wa ⟨va, rfl, hna, hba⟩)
           | (with_reducible refine (add_any (A0.below (below_trans hd hbb)) (A1.below (below_trans hd hbb)) (by omega) (by omega)).mono ?_; rintro e wa ⟨va, rfl, hna, hba⟩)
           | (with_reducible refine (add_any (B0.below hd) (B1.below hd) (by omega) (by omega)).mono ?_; rintro e wb ⟨vb, rfl, hnb, hbb⟩)
           | (with_reducible refine (add_any (B0.below (below_trans hd hba)) (B1.below (below_trans hd hba)) (by omega) (by omega)).mono ?_; rintro e wb ⟨vb, rfl, hnb, hbb⟩)))
    all_goals go_wp2_with fail
    all_goals go_meet
    all_goals first
      | exact ⟨_, rfl, hn.low (Nat.le_trans hba.size hbb.size), below_trans (below_trans hd hba) (below_trans hbb hb)⟩
      | exact ⟨_, rfl, hn.low (Nat.le_trans hbb.size hba.size), below_trans (below_trans hd hbb) (below_trans hba hb)⟩
  case rest =>
  obtain ⟨vm, rfl, hnm, hb3⟩ := hcut
  rename World => w3
  replace hnl2 := hnl2.below hb3
  have hnh2 := hnh.below hb3
  have hb03 := below_trans hb02 hb3
  clear hnh hb3 hb02 A0 A1 B0 B1
  go_wp2_with fail
  refine (add_any hnl2.arg hnh2.arg (by omega) (by omega)).mono ?_
  rintro e w4 ⟨vs, rfl, hns, hb4⟩
  have hge : Nt.val (xs.take h) * Nt.val (ys.take c) + Nt.val (xs.drop h) * Nt.val (ys.drop c) ≤ (Nt.val (xs.take h) + Nt.val (xs.drop h)) * (Nt.val (ys.take c) + Nt.val (ys.drop c)) :=
    Nt.kara_mid (Nt.val_nonneg (Nt.ok_take hxo _)) (Nt.val_nonneg (Nt.ok_drop hxo _)) (Nt.val_nonneg (Nt.ok_take hyo _)) (Nt.val_nonneg (Nt.ok_drop hyo _))
  have Hge := hide hge
  clear hge
  go_wp2_with fail
  refine (sub_yes (hnm.arg.below hb4) hns.arg (by omega) (by omega) Hge.out).mono ?_
  rintro e w5 ⟨vd, rfl, hnd, hb5⟩
  replace hnl2 := (hnl2.below hb4).below hb5
  replace hnh2 := (hnh2.below hb4).below hb5
  have hb05 := below_trans (below_trans hb03 hb4) hb5
  clear hns hnm hb4 hb5 hb03
  go_wp2_with (at_make; refine wpList_make_row _ rfl _ _ 61 rfl 96 .u32 4 Tryz.underlying61 Tryz.infoU32 _ _ _ _ (xs.length + ys.length) (xs.length + ys.length) rfl rfl (by omega) (by omega) (Nat.le_refl _) (by omega) (by unfold maxLen; omega) ?_)
  intro w6 hr6 hb6 hsz
  obtain ⟨lo, ⟨lao, rfl, hlm, hlr⟩, hlc, hlv, hll⟩ := hnl2
  obtain ⟨hi, ⟨hao, rfl, hhm, hhr⟩, hhc, hhv, hhl⟩ := hnh2
  obtain ⟨md, hmm, hmc, hmv, hml⟩ := hnd
  have hmr : Reads .u32 w6 vd md := hmm.reads.below hb6
  obtain ⟨mo, mcap, rfl, hmcl, hmcm, hmcc⟩ := hmr
  have hlcell : Cells .u32 w5 lao lo := fun hp => by
    obtain ⟨g, rest, h4, _, h5⟩ := hlr hp
    exact ⟨g, 0, h4, h5.lt, fun i hi => by rw [Nat.zero_add, h5.cell (by rw [List.length_append]; omega), lb_append_left hi]⟩
  have hhcell : Cells .u32 w5 hao hi := fun hp => by
    obtain ⟨g, rest, h4, _, h5⟩ := hhr hp
    exact ⟨g, 0, h4, h5.lt, fun i hi => by rw [Nat.zero_add, h5.cell (by rw [List.length_append]; omega), lb_append_left hi]⟩
  have hmcell : Cells .u32 w5 mo md := by
    obtain ⟨ao, e, _, h3⟩ := hmm
    injection e with e1 e2 e3
    subst e1
    intro hp
    obtain ⟨g, rest, h4, _, h5⟩ := h3 hp
    exact ⟨g, 0, h4, h5.lt, fun i hi => by rw [Nat.zero_add, h5.cell (by rw [List.length_append]; omega), lb_append_left hi]⟩
  have hhz : 2 * h + hi.length ≤ xs.length + ys.length := by
    have h1 := HH.out
    have h2 := HC.out
    by_cases e : ys.length ≤ h
    · have h3 : c = ys.length := by omega
      have h4 : Nt.val (ys.drop c) = 0 := by rw [h3, List.drop_length]; rfl
      rw [h4, Int.mul_zero] at hhv
      have h5 := (Nt.canon_zero hhc).1 hhv
      rw [h5]
      simp only [List.length_nil]
      omega
    · omega
  have hlz : lo.length ≤ 2 * h := by have := HC.out; omega
  clear hlr hhr hmm hmcc
  have q1 : 2 * h < xs.length + ys.length := by omega
  have q2 : ¬ xs.length + ys.length = 2 * h := by omega
  have q3 : ¬ xs.length + ys.length = h := by omega
  have q4 : h < xs.length + ys.length := by omega
  have q5 : IntKind.i64.wrap (2 * (h : Int)) = 2 * (h : Int) := by rw [IntKind.wrap_i64]; omega
  obtain ⟨l1, hl1⟩ : ∃ l1, (List.replicate (xs.length + ys.length) (0 : Int)).take 0 ++ (lo ++ (List.replicate (xs.length + ys.length) (0 : Int)).drop (0 + lo.length)) = l1 := ⟨_, rfl⟩
  have Hl1 := hide hl1
  rw [splice_first] at hl1
  obtain ⟨os, hos0⟩ : ∃ os, l1.take (2 * h) ++ (hi ++ l1.drop (2 * h + hi.length)) = os := ⟨_, rfl⟩
  have Hos0 := hide hos0
  rw [← hl1, splice_second _ _ _ _ hlz hhz] at hos0
  have hos : Nt.Ok os := by rw [← hos0]; exact Nt.ok_append (Nt.ok_append hlc.1 (Nt.ok_replicate _)) (Nt.ok_append hhc.1 (Nt.ok_replicate _))
  have hvs := val_pieces (xs.length + ys.length) (2 * h) lo hi hlz
  have hls : os.length = xs.length + ys.length := by rw [← hos0]; simp; omega
  have hl1l : l1.length = xs.length + ys.length := by rw [← hl1]; simp; omega
  have HL1 := hide hl1l
  rw [hos0] at hvs
  clear hl1 hos0 hl1l
  have hsum : Nt.val os + Nt.val md * Nt.pw h = Nt.val xs * Nt.val ys := by
    rw [hvs, hlv, hhv, hmv, Nt.val_split hhx]
    have hys : Nt.val ys = Nt.val (ys.take c) + Nt.pw h * Nt.val (ys.drop c) := by
      have h2 := HC.out
      by_cases e : ys.length ≤ h
      · rw [show c = ys.length by omega, List.take_length, List.drop_length]; simp [Nt.val_nil]
      · rw [← show c = h by omega]; exact Nt.val_split hcy
    rw [hys, show 2 * h = h + h by omega, Nt.pw_add]
    exact Nt.kara _ _ _ _ _
  have hfit : Nt.val os + Nt.val md * Nt.pw h < Nt.pw os.length := by
    rw [hsum, hls]; exact Nt.prod_lt hxo hyo
  have HSum := hide hsum
  have Hls := hide hls
  have Hfit := hide hfit
  clear hsum hls hfit hvs hlv hhv hmv
  go_wp2_with (refine wpList_copy_row rfl (.tmp 61) (.tmp 62) rfl (some ⟨w5.heap.size, 0, none⟩) lao (xs.length + ys.length) (xs.length + ys.length) lo.length lo.length rfl rfl w5.heap.size 0 (List.replicate (xs.length + ys.length) 0) lo hr6 (fun _ => rfl) (hlcell.below hb6) rfl (by omega) (by rw [List.length_replicate]; omega) w5 hb6 l1 Hl1.out ?_)
  intro w7 hr7 hb7
  go_wp2_with (refine wpList_copy_row rfl (.tmp 67) (.tmp 68) rfl (some ⟨w5.heap.size, 2 * h, none⟩) hao (xs.length + ys.length - 2 * h) (xs.length + ys.length - 2 * h) hi.length hi.length rfl rfl w5.heap.size (2 * h) l1 hi hr7 (fun _ => rfl) (hhcell.below hb7) rfl (by omega) (by rw [HL1.out]; omega) w5 hb7 os Hos0.out ?_)
  intro w8 hr8 hb8
  go_wp2_with fail
  refine (into_any (off := h) (L := xs.length + ys.length - h) (bs := md) hr8 hos (by rw [Hls.out]; omega) (by rw [Hls.out]; omega) (fun _ => rfl) hmcl hmcm (hmcell.below hb8) hmc.1 (away_below hmcell (Nat.le_refl _)) Hfit.out).mono ?_
  rintro e w9 ⟨zs, rfl, hzl, hzo, hzv, hrow, honly⟩
  have hfin := hzv.trans HSum.out
  have hzn : zs.length = xs.length + ys.length := by rw [hzl, Hls.out]
  have hb9 : Below w.heap.size w w9 := below_trans hb05 (hb8.trans (honly.below (Nat.le_refl _) hb8.size))
  have HF := hide hfin
  have HZ := hide hzn
  clear hzl hzv hfin hzn honly
  go_wp2
  go_ret
  exact ⟨w5.heap.size, zs, by rw [HZ.out]; rfl, hb05.size, hrow, hzo, HZ.out, HF.out, hb9⟩

end Go.Proofs.YtinfkoiifemjmaaGreatDoor

namespace Go.Proofs.YtinfkoiifemjmaaGreatDoor
open Go.RowKit

theorem prod_bd {x y : Int} (hx : 0 ≤ x ∧ x < 4294967296) (hy : 0 ≤ y ∧ y < 4294967296) : 0 ≤ y * x ∧ y * x ≤ 18446744065119617025 := by
  refine ⟨Int.mul_nonneg hy.1 hx.1, ?_⟩
  have h1 : y * x ≤ 4294967295 * x := Int.mul_le_mul_of_nonneg_right (by omega) hx.1
  omega

/-- one round -/
theorem times_step {ys zs os : List Int} {off k : Nat} {c x : Int} (hk : off + k < zs.length) (hz : Nt.lb zs (off + k) = Nt.lb os (off + k))
    (h : Nt.vt zs (off + k) + c * Nt.pw (off + k) = Nt.vt os (off + k) + x * Nt.vt ys k * Nt.pw off) :
    Nt.vt (zs.set (off + k) ((Nt.lb ys k * x + Nt.lb zs (off + k) + c) % 4294967296)) (off + (k + 1)) + (Nt.lb ys k * x + Nt.lb zs (off + k) + c) / 4294967296 * Nt.pw (off + (k + 1)) = Nt.vt os (off + (k + 1)) + x * Nt.vt ys (k + 1) * Nt.pw off := by
  rw [← Nat.add_assoc, Nt.vt_succ, Nt.vt_set (Nat.le_refl _), Nt.lb_set_eq hk, Nt.vt_succ, Nt.vt_succ, Nt.pw_succ]
  have e : (Nt.lb ys k * x + Nt.lb zs (off + k) + c) % 4294967296 + 4294967296 * ((Nt.lb ys k * x + Nt.lb zs (off + k) + c) / 4294967296) = Nt.lb ys k * x + Nt.lb zs (off + k) + c := Int.emod_add_mul_ediv _ _
  generalize (Nt.lb ys k * x + Nt.lb zs (off + k) + c) % 4294967296 = r at *
  generalize (Nt.lb ys k * x + Nt.lb zs (off + k) + c) / 4294967296 = q at *
  have e2 : (r + 4294967296 * q) * Nt.pw (off + k) = (Nt.lb ys k * x + Nt.lb zs (off + k) + c) * Nt.pw (off + k) := by rw [e]
  rw [Int.add_mul, Int.add_mul, Int.add_mul, Int.mul_assoc 4294967296] at e2
  rw [Int.mul_left_comm q, Int.mul_add, Int.add_mul (x * Nt.vt ys k)]
  have e3 : x * (Nt.lb ys k * Nt.pw k) * Nt.pw off = Nt.lb ys k * x * Nt.pw (off + k) := by
    rw [Nt.pw_add, ← Int.mul_assoc, Int.mul_comm x, Int.mul_assoc, Int.mul_assoc, Int.mul_assoc, Int.mul_comm (Nt.pw k)]
  rw [e3, ← hz]
  generalize x * Nt.vt ys k * Nt.pw off = a0 at *
  generalize r * Nt.pw (off + k) = a1 at *
  generalize Nt.lb ys k * x * Nt.pw (off + k) = a2 at *
  generalize Nt.lb zs (off + k) * Nt.pw (off + k) = a3 at *
  generalize c * Nt.pw (off + k) = a4 at *
  generalize q * Nt.pw (off + k) = a5 at *
  omega

set_option maxHeartbeats 1000000 in
theorem times_any {w0 w : World} {ro bo : Option Addr} {rc bc g off : Nat} {ys os : List Int} {x : Int} (hb : Below w0.heap.size w0 w) (hcy : Cells .u32 w0 bo ys) (hyo : Nt.Ok ys) (hym : ys.length ≤ 1099511627776) (hg : w0.heap.size ≤ g)
    (hx : 0 ≤ x ∧ x < 4294967296) (hr : Row .u32 96 w g os) (hoo : Nt.Ok os) (hfit : off + ys.length ≤ os.length) (hro : 0 < ys.length → ro = some ⟨g, off, none⟩) :
    Calls Tryz.prog 111 #[.slice ro ys.length rc, .slice bo ys.length bc, .int .u32 x] w fun e w' => ∃ (c : Int) (zs : List Int), e = .returned (.int .u32 c) ∧ 0 ≤ c ∧ c < 4294967296 ∧ zs.length = os.length ∧ Nt.Ok zs ∧
      (∀ j, j < off ∨ off + ys.length ≤ j → Nt.lb zs j = Nt.lb os j) ∧ Nt.vt zs (off + ys.length) + c * Nt.pw (off + ys.length) = Nt.vt os (off + ys.length) + x * Nt.val ys * Nt.pw off ∧ Row .u32 96 w' g zs ∧ Below w0.heap.size w0 w' := by
  obtain ⟨hx0, hx1⟩ := hx
  go_enter Tryz.func111, Tryz.ntmps111
  go_wp2
  go_loopw [7, 12] (fun c i wr => ∃ (k : Nat) (q : Int) (zs : List Int), k ≤ ys.length ∧ i = .int .i64 k ∧ c = .int .u64 q ∧ 0 ≤ q ∧ q < 4294967296 ∧ zs.length = os.length ∧ Nt.Ok zs ∧ (∀ j, j < off ∨ off + k ≤ j → Nt.lb zs j = Nt.lb os j) ∧
      Row .u32 96 wr g zs ∧ Below w0.heap.size w0 wr ∧ Nt.vt zs (off + k) + q * Nt.pw (off + k) = Nt.vt os (off + k) + x * Nt.vt ys k * Nt.pw off) (fun _ i _ => ys.length - (intOf i).toNat)
  case atStart => exact ⟨0, 0, os, by omega, rfl, rfl, by omega, by omega, rfl, hoo, fun _ _ => rfl, hr, hb, by simp [Nt.vt]⟩
  case round =>
    obtain ⟨k, q, zs, hk, rfl, rfl, hq0, hq1, hzl, hzo, hsame, hrow, hbr, heq⟩ := hrel
    have Heq : Hid _ := heq
    have Hzl : Hid (zs.length = os.length) := hzl
    have Hs : Hid (∀ j, j < off ∨ off + k ≤ j → Nt.lb zs j = Nt.lb os j) := hsame
    clear heq hzl hsame hr hb
    by_cases hkl : k < ys.length
    · have hR := hro (by omega)
      subst hR
      obtain ⟨b1, o1, rfl, _, hc1⟩ := (hcy.below hbr) (by omega)
      have g1 := hc1 k hkl
      have g2 := hrow.cell (i := off + k) (by have := Hzl.out; omega)
      have hfz := hrow.frozen (off + k)
      have byk := hyo k
      obtain ⟨by0, by1⟩ := byk
      have bzk := hzo (off + k)
      obtain ⟨bz0, bz1⟩ := bzk
      obtain ⟨bp0, bp1⟩ := prod_bd ⟨hx0, hx1⟩ ⟨by0, by1⟩
      clear hc1 hcy
      go_wp2
      go_region
      all_goals go_wp2
      all_goals go_roundw
      all_goals first
        | exact ⟨k + 1, (Nt.lb ys k * x + Nt.lb zs (off + k) + q) / 4294967296, zs.set (off + k) ((Nt.lb ys k * x + Nt.lb zs (off + k) + q) % 4294967296), by omega, by go_num, rfl, by omega, by omega, by have := Hzl.out; simp [this], Nt.ok_set hzo (by omega), fun j hj => by
            rw [Nt.lb_set_ne (by omega)]; exact Hs.out j (by omega), hrow.set _ _, (hbr.setCell (p := ⟨g, off + k, none⟩) hg _).drew, times_step (by have := Hzl.out; omega) (Hs.out _ (by omega)) Heq.out⟩
        | (simp [intOf]; omega)
    · have hke : k = ys.length := by omega
      subst hke
      go_wp2
      go_ret
      exact ⟨q, zs, by simp, hq0, hq1, Hzl.out, hzo, Hs.out, Heq.out, hrow, hbr⟩

/-- one row of a product -/
theorem mul_step {xs ys zs os : List Int} {k : Nat} {c : Int} (hl : k + ys.length < zs.length) (hz : Nt.vt zs (k + ys.length) + c * Nt.pw (k + ys.length) = Nt.vt os (k + ys.length) + Nt.lb xs k * Nt.val ys * Nt.pw k)
    (ho : Nt.vt os (k + ys.length) = Nt.vt xs k * Nt.val ys) : Nt.vt (zs.set (k + ys.length) c) (k + 1 + ys.length) = Nt.vt xs (k + 1) * Nt.val ys := by
  rw [Nat.add_right_comm, Nt.vt_succ, Nt.vt_set (Nat.le_refl _), Nt.lb_set_eq hl, hz, ho, Nt.vt_succ, Int.add_mul, Int.mul_right_comm]

theorem mul_into {w' wr w3 : World} {g2 t P Q rc : Nat} {zs zs2 : List Int} (hrow : Row .u32 96 wr w'.heap.size zs) (hzo : Nt.Ok zs) (hzl : zs.length = P + Q) (ht : t < Q) (hb3 : Below wr.drew.heap.size wr.drew w3)
    (hg2 : wr.drew.heap.size ≤ g2) (hr2 : Row .u32 96 w3 g2 zs2) (ho2 : Nt.Ok zs2) (hm : zs2.length ≤ 2199023255552 ∧ P + Q ≤ 2199023255552) (hfit : Nt.val zs + Nt.val zs2 * Nt.pw t < Nt.pw (P + Q)) :
    Calls Tryz.prog 112 #[.slice (some ⟨w'.heap.size, t, none⟩) (P + Q - t) rc, .slice (some ⟨g2, 0, none⟩) zs2.length zs2.length] w3 fun e w5 => ∃ zs3 : List Int, e = .returned (.tuple #[]) ∧ zs3.length = P + Q ∧ Nt.Ok zs3 ∧
      Nt.val zs3 = Nt.val zs + Nt.val zs2 * Nt.pw t ∧ Row .u32 96 w5 w'.heap.size zs3 ∧ Below w'.heap.size wr w5 := by
  have hgt := hrow.lt
  have h9 : wr.drew.heap.size = wr.heap.size := rfl
  have hr3 : Row .u32 96 w3 w'.heap.size zs := hrow.keeps (below_trans (Below.refl _ _).drew hb3)
  refine (into_any (w := w3) (g := w'.heap.size) (off := t) (L := P + Q - t) (bs := zs2) (os := zs) hr3 hzo (by rw [hzl]; omega) (by rw [hzl]; exact hm.2) (fun _ => rfl) (Nat.le_refl _) (by unfold maxLen; omega) (fun _ => ⟨g2, 0, rfl, hr2.lt, fun i hi => by rw [Nat.zero_add]; exact hr2.cell hi⟩) ho2 (fun _ => away_some (by omega)) (by rw [hzl]; exact hfit)).mono ?_
  rintro e w4 ⟨zs3, rfl, h1, h2, h3, h4, h5⟩
  refine ⟨zs3, rfl, by rw [h1, hzl], h2, h3, h4, ?_⟩
  have hs := hb3.size
  exact ((Below.refl _ wr).drew.trans (hb3.mono (by omega))).trans (h5.below (Nat.le_refl _) (by omega))

set_option maxHeartbeats 8000000 in
theorem mul_from {N : Nat} (hI : MulOk N) {w : World} {va vb : Value} {n m : Int} {ka kb : Nat} (ha : Arg w va n ka) (hb : Arg w vb m kb) (hka : ka ≤ 549755813888) (hkb : kb ≤ 549755813888) (hN : ka ≤ N ∨ kb ≤ N) :
    Calls Tryz.prog 74 #[va, vb] w fun e w' => ∃ v, e = .returned v ∧ Num w.heap.size w' v (n * m) (ka + kb) ∧ Below w.heap.size w w' := by
  go_enter Tryz.func74, Tryz.ntmps74
  go_wp2_with fail
  refine (trim_arg ha).mono ?_
  rintro e w' ⟨rfl, ao, xs, rfl, hxk, hxm, hxc, hx, rfl⟩
  go_wp2_with fail
  refine (trim_arg hb).mono ?_
  rintro e w' ⟨rfl, bo, ys, rfl, hyk, hym, hyc, hy, rfl⟩
  clear ha hb
  by_cases hlt : ys.length < xs.length
  · skip
    go_wp2_with (at_make; refine wpList_make_row _ rfl _ _ 61 rfl 96 .u32 4 Tryz.underlying61 Tryz.infoU32 _ _ _ _ (ys.length + xs.length) (ys.length + xs.length) rfl rfl (by omega) (by omega) (Nat.le_refl _) (by omega) (by unfold maxLen; omega) ?_)
    intro w1 hr hbel hsz
    by_cases hs : ys.length ≤ 100
    · have hs1 : (ys.length : Int) ≤ 100 := by omega
      have hs2 : decide ((ys.length : Int) ≤ 100) = true := decide_eq_true hs1
      go_wp2
      go_loopw [30] (fun i wr => ∃ (k : Nat) (zs : List Int), k ≤ ys.length ∧ i = .int .i64 k ∧ zs.length = ys.length + xs.length ∧ Nt.Ok zs ∧ (∀ j, k + xs.length ≤ j → Nt.lb zs j = 0) ∧
          Row .u32 96 wr w'.heap.size zs ∧ Below w'.heap.size w' wr ∧ Nt.vt zs (k + xs.length) = Nt.vt ys k * Nt.val xs) (fun i _ => ys.length - (intOf i).toNat)
      case atStart => exact ⟨0, List.replicate (ys.length + xs.length) 0, by omega, rfl, by simp, Nt.ok_replicate _, fun j _ => Nt.lb_replicate _ _, hr, hbel, by
        rw [Nt.vt_cut (k := 0) (by omega) (fun i _ _ => Nt.lb_replicate _ _)]; simp [Nt.vt]⟩
      case round =>
        obtain ⟨k, zs, hk, rfl, hzl, hzo, hz0, hrow, hbr, heq⟩ := hrel
        have Heq : Hid _ := heq
        have Hzl : Hid (zs.length = ys.length + xs.length) := hzl
        have Hz : Hid (∀ j, k + xs.length ≤ j → Nt.lb zs j = 0) := hz0
        clear heq hzl hz0 hr hbel
        by_cases hkl : k < ys.length
        · obtain ⟨b1, o1, rfl, hb1, hc1⟩ := (hyc.below hbr) (by omega)
          have g1 := hc1 k hkl
          have bx := hy.1 k
          clear hc1 hyc
          have hbd : Below w'.heap.size w' wr.drew := hbr.drew
          have hrd : Row .u32 96 wr.drew w'.heap.size zs := hrow
          have hfit : k + xs.length ≤ zs.length := by have := Hzl.out; omega
          have i2 : (k : Int) + (xs.length : Int) < (ys.length : Int) + (xs.length : Int) := by omega
          have jw : IntKind.i64.wrap ((k : Int) + (xs.length : Int)) = (k : Int) + (xs.length : Int) := by rw [IntKind.wrap_i64]; omega
          have j1 : (0 : Int) ≤ (k : Int) + (xs.length : Int) := by omega
          have j3 : ¬ ys.length + xs.length = k := by omega
          have j4 : ((k : Int) + (xs.length : Int)).toNat = k + xs.length := by omega
          go_wp2
          go_region_with (go_at_call 111; refine (times_any hbd hxc hx.1 (by omega) (Nat.le_refl _) bx hrd hzo hfit (fun _ => rfl)).mono ?_; rintro e w3 ⟨c, zs', rfl, hc0, hc1, hzl', hzo', hsm, hv, hrow', hbr'⟩; have hfz := hrow'.frozen (k + xs.length); have hcl := hrow'.cell (i := k + xs.length) (by rw [hzl']; have := Hzl.out; omega); have HV := hide hv; have HSm := hide hsm; have HZl := hide hzl'; clear hv hsm hzl')
          all_goals go_wp2
          all_goals go_roundw
          all_goals first
            | exact ⟨k + 1, zs'.set (k + xs.length) c, by omega, by go_num, by rw [List.length_set, HZl.out, Hzl.out], Nt.ok_set hzo' ⟨hc0, hc1⟩, fun j hj => by
                rw [Nt.lb_set_ne (by omega), HSm.out j (by omega)]; exact Hz.out j (by omega), hrow'.set _ _, hbr'.setCell (p := ⟨w'.heap.size, k + xs.length, none⟩) (Nat.le_refl _) _, mul_step (by rw [HZl.out, Hzl.out]; omega) HV.out Heq.out⟩
            | (simp [intOf]; omega)
        · have hke : k = ys.length := by omega
          subst hke
          have hz2 : zs.length = ys.length + xs.length := Hzl.out
          have hfin : Nt.val zs = Nt.val ys * Nt.val xs := by
            unfold Nt.val
            rw [hz2]
            exact Heq.out
          have ht := trim_row (B := w'.heap.size) (cap := zs.length) hrow (Nat.le_refl _) (Nat.le_refl _) (by rw [hz2]; unfold maxLen; omega) hzo
          rw [hz2, hfin] at ht
          clear hz2 hfin Heq
          go_wp2_with fail
          refine ht.mono ?_
          rintro e w3 ⟨rfl, v, rfl, hnum⟩
          go_wp2
          go_ret
          exact ⟨_, rfl, by rw [Int.mul_comm (Nt.val xs)]; exact hnum.mono (by omega), hbr⟩
    · obtain ⟨pb, po, rfl⟩ : ∃ b o, bo = some ⟨b, o, none⟩ := by
        obtain ⟨b, o, h, _⟩ := hyc (by omega)
        exact ⟨b, o, h⟩
      obtain ⟨qb, qo, rfl⟩ : ∃ b o, ao = some ⟨b, o, none⟩ := by
        obtain ⟨b, o, h, _⟩ := hxc (by omega)
        exact ⟨b, o, h⟩
      have hs1 : ¬ (ys.length : Int) ≤ 100 := by omega
      have hs2 : decide ((ys.length : Int) ≤ 100) = false := decide_eq_false hs1
      go_wp2
      go_loopw [7] (fun i wr => ∃ (t : Nat) (zs : List Int), t < xs.length + ys.length ∧ i = .int .i64 t ∧ zs.length = ys.length + xs.length ∧ Nt.Ok zs ∧
          Row .u32 96 wr w'.heap.size zs ∧ Below w'.heap.size w' wr ∧ Nt.val zs = Nt.val ys * Nt.vt xs t) (fun i _ => xs.length - (intOf i).toNat)
      case atStart => exact ⟨0, List.replicate (ys.length + xs.length) 0, by omega, rfl, by simp, Nt.ok_replicate _, hr, hbel, by rw [Nt.val_replicate]; simp [Nt.vt]⟩
      case round =>
        obtain ⟨t, zs, ht, rfl, hzl, hzo, hrow, hbr, heq⟩ := hrel
        clear hr hbel
        by_cases htl : t < xs.length
        · obtain ⟨e1, he1⟩ : ∃ e1, e1 = min (t + ys.length) xs.length := ⟨_, rfl⟩
          have hpl : ((xs.drop t).take (e1 - t)).length = e1 - t := by rw [List.length_take, List.length_drop]; omega
          have hqc : Cells .u32 wr.drew (some ⟨qb, qo + t, none⟩) ((xs.drop t).take (e1 - t)) := (cells_drop (hxc.below hbr.drew) t).take (by rw [List.length_drop]; omega)
          have hpiece : Nt.val zs + Nt.val ys * Nt.val ((xs.drop t).take (e1 - t)) * Nt.pw t = Nt.val ys * Nt.vt xs (t + ys.length) := by
            have h1 := Nt.vt_piece (xs := xs) (at' := t) (n := e1 - t) (by omega)
            have h2 : Nt.vt xs (t + ys.length) = Nt.vt xs (t + (e1 - t)) := by
              by_cases h : t + ys.length ≤ xs.length
              · rw [show t + (e1 - t) = t + ys.length by omega]
              · rw [Nt.vt_out (by omega), Nt.vt_out (by omega)]
            rw [h2, h1, heq]
            grind
          have hle : Nt.val ys * Nt.vt xs (t + ys.length) < Nt.pw (ys.length + xs.length) := by
            have h1 : Nt.vt xs (t + ys.length) ≤ Nt.val xs := by
              by_cases h : t + ys.length ≤ xs.length
              · have h2 := Nt.vt_drop xs (t + ys.length) (xs.length - (t + ys.length))
                rw [show t + ys.length + (xs.length - (t + ys.length)) = xs.length by omega] at h2
                have h3 : 0 ≤ Nt.pw (t + ys.length) * Nt.vt (xs.drop (t + ys.length)) (xs.length - (t + ys.length)) := Int.mul_nonneg (by have := Nt.pw_pos (t + ys.length); omega) (Nt.vt_bounds (Nt.ok_drop hx.1 _) _).1
                unfold Nt.val
                omega
              · rw [Nt.vt_out (by omega)]; exact Int.le_refl _
            have h2 : Nt.val ys * Nt.vt xs (t + ys.length) ≤ Nt.val ys * Nt.val xs := Int.mul_le_mul_of_nonneg_left h1 (Nt.val_nonneg hy.1)
            have h3 := Nt.prod_lt hy.1 hx.1
            omega
          have hgt := hrow.lt
          have HP := hide hpiece
          have HL := hide hle
          have HPL := hide hpl
          have HZL := hide hzl
          have He := hide he1
          have jw : IntKind.i64.wrap ((t : Int) + (ys.length : Int)) = (t : Int) + (ys.length : Int) := by rw [IntKind.wrap_i64]; omega
          have k0 : (if (xs.length : Int) < (t : Int) + (ys.length : Int) then (xs.length : Int) else (t : Int) + (ys.length : Int)) = (e1 : Int) := by split <;> omega
          have k1 : t ≤ e1 := by omega
          have k2 : e1 ≤ xs.length := by omega
          have k3 : (t : Int) ≤ (e1 : Int) := by omega
          have k4 : (e1 : Int) ≤ (xs.length : Int) := by omega
          have k5 : (0 : Int) ≤ (t : Int) := by omega
          have k6 : (t : Int) ≤ (ys.length : Int) + (xs.length : Int) := by omega
          have k7 : ¬ ys.length + xs.length = t := by omega
          have k8 : ¬ xs.length = t := by omega
          have k9 : t ≤ ys.length + xs.length := by omega
          have k10 : (0 : Int) ≤ (e1 : Int) := by omega
          have hpd := hyc.below hbr.drew
          have hHalf := halves_any hI (w := wr.drew) (cb := xs.length - t) (ys := (xs.drop t).take (e1 - t)) (Nat.le_refl _) hym (by rw [hpl]; omega) (by omega) hpd hqc hy.1 (Nt.ok_take (Nt.ok_drop hx.1 _) _) (by rw [hpl]; omega) (by omega) (by rw [hpl]; omega) (by omega) (by omega)
          rw [hpl] at hHalf
          clear hpiece hle hpl hzl heq he1
          go_wp2
          go_region_held3 (fun _ => True) (trivial) (first
            | (go_at_call 113
               with_reducible refine hHalf.mono ?_
               rintro e w3 ⟨g2, zs2, rfl, hg2, hr2, ho2, hl2, hv2, hb3⟩
               have hInto := mul_into (rc := ys.length + xs.length - t) hrow hzo HZL.out htl hb3 hg2 hr2 ho2 ⟨by rw [hl2]; omega, by omega⟩ (by rw [hv2, HP.out]; exact HL.out)
               clear hl2)
            | (go_at_call 112
               with_reducible refine hInto.mono ?_
               rintro e w4 ⟨zs3, rfl, hl3, ho3, hv3, hr3, hbl3⟩))
          all_goals go_wp2
          all_goals go_roundw
          all_goals first
            | exact ⟨t + ys.length, zs3, by omega, by go_num, hl3, ho3, hr3, hbr.trans hbl3, by rw [hv3, hv2, HP.out]⟩
            | (simp [intOf]; omega)
        · have hfin : Nt.val zs = Nt.val ys * Nt.val xs := by rw [heq, Nt.vt_out (by omega)]
          have ht := trim_row (B := w'.heap.size) (cap := zs.length) hrow (Nat.le_refl _) (Nat.le_refl _) (by rw [hzl]; unfold maxLen; omega) hzo
          rw [hzl, hfin] at ht
          clear hzl hfin heq
          go_wp2_with fail
          refine ht.mono ?_
          rintro e w3 ⟨rfl, v, rfl, hnum⟩
          go_wp2
          go_ret
          exact ⟨_, rfl, by rw [Int.mul_comm (Nt.val xs)]; exact hnum.mono (by omega), hbr⟩
  · skip
    go_wp2_with (at_make; refine wpList_make_row _ rfl _ _ 61 rfl 96 .u32 4 Tryz.underlying61 Tryz.infoU32 _ _ _ _ (xs.length + ys.length) (xs.length + ys.length) rfl rfl (by omega) (by omega) (Nat.le_refl _) (by omega) (by unfold maxLen; omega) ?_)
    intro w1 hr hbel hsz
    by_cases hs : xs.length ≤ 100
    · have hs1 : (xs.length : Int) ≤ 100 := by omega
      have hs2 : decide ((xs.length : Int) ≤ 100) = true := decide_eq_true hs1
      go_wp2
      go_loopw [30] (fun i wr => ∃ (k : Nat) (zs : List Int), k ≤ xs.length ∧ i = .int .i64 k ∧ zs.length = xs.length + ys.length ∧ Nt.Ok zs ∧ (∀ j, k + ys.length ≤ j → Nt.lb zs j = 0) ∧
          Row .u32 96 wr w'.heap.size zs ∧ Below w'.heap.size w' wr ∧ Nt.vt zs (k + ys.length) = Nt.vt xs k * Nt.val ys) (fun i _ => xs.length - (intOf i).toNat)
      case atStart => exact ⟨0, List.replicate (xs.length + ys.length) 0, by omega, rfl, by simp, Nt.ok_replicate _, fun j _ => Nt.lb_replicate _ _, hr, hbel, by
        rw [Nt.vt_cut (k := 0) (by omega) (fun i _ _ => Nt.lb_replicate _ _)]; simp [Nt.vt]⟩
      case round =>
        obtain ⟨k, zs, hk, rfl, hzl, hzo, hz0, hrow, hbr, heq⟩ := hrel
        have Heq : Hid _ := heq
        have Hzl : Hid (zs.length = xs.length + ys.length) := hzl
        have Hz : Hid (∀ j, k + ys.length ≤ j → Nt.lb zs j = 0) := hz0
        clear heq hzl hz0 hr hbel
        by_cases hkl : k < xs.length
        · obtain ⟨b1, o1, rfl, hb1, hc1⟩ := (hxc.below hbr) (by omega)
          have g1 := hc1 k hkl
          have bx := hx.1 k
          clear hc1 hxc
          have hbd : Below w'.heap.size w' wr.drew := hbr.drew
          have hrd : Row .u32 96 wr.drew w'.heap.size zs := hrow
          have hfit : k + ys.length ≤ zs.length := by have := Hzl.out; omega
          have i2 : (k : Int) + (ys.length : Int) < (xs.length : Int) + (ys.length : Int) := by omega
          have jw : IntKind.i64.wrap ((k : Int) + (ys.length : Int)) = (k : Int) + (ys.length : Int) := by rw [IntKind.wrap_i64]; omega
          have j1 : (0 : Int) ≤ (k : Int) + (ys.length : Int) := by omega
          have j3 : ¬ xs.length + ys.length = k := by omega
          have j4 : ((k : Int) + (ys.length : Int)).toNat = k + ys.length := by omega
          go_wp2
          go_region_with (go_at_call 111; refine (times_any hbd hyc hy.1 (by omega) (Nat.le_refl _) bx hrd hzo hfit (fun _ => rfl)).mono ?_; rintro e w3 ⟨c, zs', rfl, hc0, hc1, hzl', hzo', hsm, hv, hrow', hbr'⟩; have hfz := hrow'.frozen (k + ys.length); have hcl := hrow'.cell (i := k + ys.length) (by rw [hzl']; have := Hzl.out; omega); have HV := hide hv; have HSm := hide hsm; have HZl := hide hzl'; clear hv hsm hzl')
          all_goals go_wp2
          all_goals go_roundw
          all_goals first
            | exact ⟨k + 1, zs'.set (k + ys.length) c, by omega, by go_num, by rw [List.length_set, HZl.out, Hzl.out], Nt.ok_set hzo' ⟨hc0, hc1⟩, fun j hj => by
                rw [Nt.lb_set_ne (by omega), HSm.out j (by omega)]; exact Hz.out j (by omega), hrow'.set _ _, hbr'.setCell (p := ⟨w'.heap.size, k + ys.length, none⟩) (Nat.le_refl _) _, mul_step (by rw [HZl.out, Hzl.out]; omega) HV.out Heq.out⟩
            | (simp [intOf]; omega)
        · have hke : k = xs.length := by omega
          subst hke
          have hz2 : zs.length = xs.length + ys.length := Hzl.out
          have hfin : Nt.val zs = Nt.val xs * Nt.val ys := by
            unfold Nt.val
            rw [hz2]
            exact Heq.out
          have ht := trim_row (B := w'.heap.size) (cap := zs.length) hrow (Nat.le_refl _) (Nat.le_refl _) (by rw [hz2]; unfold maxLen; omega) hzo
          rw [hz2, hfin] at ht
          clear hz2 hfin Heq
          go_wp2_with fail
          refine ht.mono ?_
          rintro e w3 ⟨rfl, v, rfl, hnum⟩
          go_wp2
          go_ret
          exact ⟨_, rfl, hnum.mono (by omega), hbr⟩
    · obtain ⟨pb, po, rfl⟩ : ∃ b o, ao = some ⟨b, o, none⟩ := by
        obtain ⟨b, o, h, _⟩ := hxc (by omega)
        exact ⟨b, o, h⟩
      obtain ⟨qb, qo, rfl⟩ : ∃ b o, bo = some ⟨b, o, none⟩ := by
        obtain ⟨b, o, h, _⟩ := hyc (by omega)
        exact ⟨b, o, h⟩
      have hs1 : ¬ (xs.length : Int) ≤ 100 := by omega
      have hs2 : decide ((xs.length : Int) ≤ 100) = false := decide_eq_false hs1
      go_wp2
      go_loopw [7] (fun i wr => ∃ (t : Nat) (zs : List Int), t < ys.length + xs.length ∧ i = .int .i64 t ∧ zs.length = xs.length + ys.length ∧ Nt.Ok zs ∧
          Row .u32 96 wr w'.heap.size zs ∧ Below w'.heap.size w' wr ∧ Nt.val zs = Nt.val xs * Nt.vt ys t) (fun i _ => ys.length - (intOf i).toNat)
      case atStart => exact ⟨0, List.replicate (xs.length + ys.length) 0, by omega, rfl, by simp, Nt.ok_replicate _, hr, hbel, by rw [Nt.val_replicate]; simp [Nt.vt]⟩
      case round =>
        obtain ⟨t, zs, ht, rfl, hzl, hzo, hrow, hbr, heq⟩ := hrel
        clear hr hbel
        by_cases htl : t < ys.length
        · obtain ⟨e1, he1⟩ : ∃ e1, e1 = min (t + xs.length) ys.length := ⟨_, rfl⟩
          have hpl : ((ys.drop t).take (e1 - t)).length = e1 - t := by rw [List.length_take, List.length_drop]; omega
          have hqc : Cells .u32 wr.drew (some ⟨qb, qo + t, none⟩) ((ys.drop t).take (e1 - t)) := (cells_drop (hyc.below hbr.drew) t).take (by rw [List.length_drop]; omega)
          have hpiece : Nt.val zs + Nt.val xs * Nt.val ((ys.drop t).take (e1 - t)) * Nt.pw t = Nt.val xs * Nt.vt ys (t + xs.length) := by
            have h1 := Nt.vt_piece (xs := ys) (at' := t) (n := e1 - t) (by omega)
            have h2 : Nt.vt ys (t + xs.length) = Nt.vt ys (t + (e1 - t)) := by
              by_cases h : t + xs.length ≤ ys.length
              · rw [show t + (e1 - t) = t + xs.length by omega]
              · rw [Nt.vt_out (by omega), Nt.vt_out (by omega)]
            rw [h2, h1, heq]
            grind
          have hle : Nt.val xs * Nt.vt ys (t + xs.length) < Nt.pw (xs.length + ys.length) := by
            have h1 : Nt.vt ys (t + xs.length) ≤ Nt.val ys := by
              by_cases h : t + xs.length ≤ ys.length
              · have h2 := Nt.vt_drop ys (t + xs.length) (ys.length - (t + xs.length))
                rw [show t + xs.length + (ys.length - (t + xs.length)) = ys.length by omega] at h2
                have h3 : 0 ≤ Nt.pw (t + xs.length) * Nt.vt (ys.drop (t + xs.length)) (ys.length - (t + xs.length)) := Int.mul_nonneg (by have := Nt.pw_pos (t + xs.length); omega) (Nt.vt_bounds (Nt.ok_drop hy.1 _) _).1
                unfold Nt.val
                omega
              · rw [Nt.vt_out (by omega)]; exact Int.le_refl _
            have h2 : Nt.val xs * Nt.vt ys (t + xs.length) ≤ Nt.val xs * Nt.val ys := Int.mul_le_mul_of_nonneg_left h1 (Nt.val_nonneg hx.1)
            have h3 := Nt.prod_lt hx.1 hy.1
            omega
          have hgt := hrow.lt
          have HP := hide hpiece
          have HL := hide hle
          have HPL := hide hpl
          have HZL := hide hzl
          have He := hide he1
          have jw : IntKind.i64.wrap ((t : Int) + (xs.length : Int)) = (t : Int) + (xs.length : Int) := by rw [IntKind.wrap_i64]; omega
          have k0 : (if (ys.length : Int) < (t : Int) + (xs.length : Int) then (ys.length : Int) else (t : Int) + (xs.length : Int)) = (e1 : Int) := by split <;> omega
          have k1 : t ≤ e1 := by omega
          have k2 : e1 ≤ ys.length := by omega
          have k3 : (t : Int) ≤ (e1 : Int) := by omega
          have k4 : (e1 : Int) ≤ (ys.length : Int) := by omega
          have k5 : (0 : Int) ≤ (t : Int) := by omega
          have k6 : (t : Int) ≤ (xs.length : Int) + (ys.length : Int) := by omega
          have k7 : ¬ xs.length + ys.length = t := by omega
          have k8 : ¬ ys.length = t := by omega
          have k9 : t ≤ xs.length + ys.length := by omega
          have k10 : (0 : Int) ≤ (e1 : Int) := by omega
          have hpd := hxc.below hbr.drew
          have hHalf := halves_any hI (w := wr.drew) (cb := ys.length - t) (ys := (ys.drop t).take (e1 - t)) (Nat.le_refl _) hxm (by rw [hpl]; omega) (by omega) hpd hqc hx.1 (Nt.ok_take (Nt.ok_drop hy.1 _) _) (by rw [hpl]; omega) (by omega) (by rw [hpl]; omega) (by omega) (by omega)
          rw [hpl] at hHalf
          clear hpiece hle hpl hzl heq he1
          go_wp2
          go_region_held3 (fun _ => True) (trivial) (first
            | (go_at_call 113
               with_reducible refine hHalf.mono ?_
               rintro e w3 ⟨g2, zs2, rfl, hg2, hr2, ho2, hl2, hv2, hb3⟩
               have hInto := mul_into (rc := xs.length + ys.length - t) hrow hzo HZL.out htl hb3 hg2 hr2 ho2 ⟨by rw [hl2]; omega, by omega⟩ (by rw [hv2, HP.out]; exact HL.out)
               clear hl2)
            | (go_at_call 112
               with_reducible refine hInto.mono ?_
               rintro e w4 ⟨zs3, rfl, hl3, ho3, hv3, hr3, hbl3⟩))
          all_goals go_wp2
          all_goals go_roundw
          all_goals first
            | exact ⟨t + xs.length, zs3, by omega, by go_num, hl3, ho3, hr3, hbr.trans hbl3, by rw [hv3, hv2, HP.out]⟩
            | (simp [intOf]; omega)
        · have hfin : Nt.val zs = Nt.val xs * Nt.val ys := by rw [heq, Nt.vt_out (by omega)]
          have ht := trim_row (B := w'.heap.size) (cap := zs.length) hrow (Nat.le_refl _) (Nat.le_refl _) (by rw [hzl]; unfold maxLen; omega) hzo
          rw [hzl, hfin] at ht
          clear hzl hfin heq
          go_wp2_with fail
          refine ht.mono ?_
          rintro e w3 ⟨rfl, v, rfl, hnum⟩
          go_wp2
          go_ret
          exact ⟨_, rfl, hnum.mono (by omega), hbr⟩

theorem mul_ok (N : Nat) : MulOk N := by
  induction N with
  | zero => intro _ _ _ _ _ _ _ _ _ _ _ h; omega
  | succ N ih => intro w va vb n m ka kb ha hb hka hkb h; exact mul_from ih ha hb hka hkb (by omega)

theorem mul_any {w : World} {va vb : Value} {n m : Int} {ka kb : Nat} (ha : Arg w va n ka) (hb : Arg w vb m kb) (hka : ka ≤ 549755813888) (hkb : kb ≤ 549755813888) :
    Calls Tryz.prog 74 #[va, vb] w fun e w' => ∃ v, e = .returned v ∧ Num w.heap.size w' v (n * m) (ka + kb) ∧ Below w.heap.size w w' :=
  mul_ok (ka + 1) w va vb n m ka kb ha hb hka hkb (by omega)

end Go.Proofs.YtinfkoiifemjmaaGreatDoor

namespace Go.Proofs.YtinfkoiifemjmaaGreatDoor
open Go.RowKit

theorem Num.tight {B : Nat} {w : World} {v : Value} {n : Int} {k k' : Nat} (h : Num B w v n k) (hn : n < Nt.pw k') : Num B w v n k' := by
  obtain ⟨zs, h1, h2, h3, h4⟩ := h
  refine ⟨zs, h1, h2, h3, ?_⟩
  rcases Nat.lt_or_ge k' zs.length with e | e
  · exfalso
    have h5 := Nt.canon_low h2 (by intro e'; subst e'; simp at e)
    have h6 := Nt.pw_mono (m := k') (n := zs.length - 1) (by omega)
    omega
  · exact e
theorem Arg.lt {w : World} {v : Value} {n : Int} {k : Nat} (h : Arg w v n k) : n < Nt.pw k := by
  obtain ⟨zs, _, h2, rfl, h4⟩ := h
  have h5 := Nt.val_lt h2
  have h6 := Nt.pw_mono h4
  omega

set_option maxHeartbeats 1000000 in
theorem cut_arg {w : World} {v : Value} {n : Int} {m : Nat} (ha : Arg w v n m) (hm : m ≤ 1099511627776) :
    Calls Tryz.prog 146 #[v] w fun e w' => w' = w ∧ ∃ ao zs cap, e = .returned (.slice ao zs.length cap) ∧ zs.length ≤ cap ∧ cap ≤ maxLen ∧ zs.length ≤ m ∧ Cells .u32 w ao zs ∧ Nt.Canon zs ∧ Nt.val zs = n := by
  have hlen := len_any ha hm
  obtain ⟨xs, ⟨ao, cap, rfl, h1, h2, h3⟩, h4, h5, h6⟩ := ha
  obtain ⟨j, hj, hc, hv⟩ := canon_exists xs h4
  have hl : (xs.take j).length = j := by rw [List.length_take, Nat.min_eq_left hj]
  rw [h5] at hv
  go_enter Tryz.func146, Tryz.ntmps146
  go_wp2_with fail
  refine hlen.mono ?_
  clear hlen
  rintro e w' ⟨k, rfl, hk, hk2, rfl⟩
  have hkj : (k + 31) / 32 = j := by rw [limbs_of_len hc (by rw [hv]; exact hk), hl]
  have q1 : ((k : Int) + 32 - 1) / 32 = (j : Int) := by omega
  have q2 : j ≤ cap := by omega
  have q3 : (j : Int) ≤ (cap : Int) := by omega
  have Hk := hide hk
  have Hv := hide hv
  have Hl := hide hl
  clear hk hv hl h5 hkj
  go_wp2
  go_ret
  exact ⟨rfl, ao, xs.take j, cap, by rw [Hl.out]; rfl, by rw [Hl.out]; omega, h2, by rw [Hl.out]; omega, h3.take hj, hc, Hv.out⟩

set_option maxHeartbeats 1000000 in
theorem leadz_any (x : Int) (w : World) (hx0 : 0 ≤ x) (hx1 : x < 4294967296) :
    Calls Tryz.prog 149 #[.int .u32 x] w fun e w' => ∃ k : Nat, e = .returned (.int .i64 ((32 - k : Nat) : Int)) ∧ IsLen x k ∧ k ≤ 32 ∧ w' = w := by
  go_enter Tryz.func149, Tryz.ntmps149
  go_wp2_with fail
  refine (len32_any x w hx0 hx1).mono ?_
  rintro e w' ⟨k, rfl, hk, hk2, rfl⟩
  have q1 : (32 : Int) - (k : Int) = ((32 - k : Nat) : Int) := by omega
  have Hk := hide hk
  clear hk
  go_wp2
  go_ret
  exact ⟨k, by first | rfl | (rw [q1]) | simp [q1], Hk.out, hk2, rfl⟩

theorem row_cells_take {w : World} {g n : Nat} {zs : List Int} (h : Row .u32 96 w g zs) (hn : n ≤ zs.length) : Cells .u32 w (some ⟨g, 0, none⟩) (zs.take n) := by
  have h2 := row_cells (off := 0) (n := n) h (by omega)
  rw [List.drop_zero] at h2
  exact h2

/-- less than a limb's bits -/
theorem shr_some {w : World} {va : Value} {A : Int} {ka s : Nat} (ha : Arg w va A ka) (hka : ka ≤ 1099511627776) (hs : s < 32) :
    Calls Tryz.prog 152 #[va, .int .i64 s] w fun e w' => ∃ v b, e = .returned (.tuple #[v, .bool b, .bool true]) ∧ Num w.heap.size w' v (A / p2 s) ka ∧ Below w.heap.size w w' := by
  have h0 := ha.nonneg
  by_cases h1 : 1 ≤ A
  · refine (shr_near (N := s) (W := 0) (s := s) ha hka (by omega) hs (by rw [Nt.pw_zero]; exact h1)).mono ?_
    rintro e w' ⟨v, rfl, hn, hb⟩
    exact ⟨v, _, rfl, hn, hb⟩
  · have e0 : A = 0 := by omega
    subst e0
    have e1 : ((s : Int) / 32).toNat = 0 := by omega
    refine (shr_far (n := (s : Int)) ha (by omega) (by omega) (by rw [e1, Nt.pw_zero]; omega)).mono ?_
    rintro e w' ⟨rfl, rfl⟩
    refine ⟨_, _, rfl, ?_, Below.refl _ _⟩
    rw [Int.zero_ediv]
    exact ⟨[], ⟨none, rfl, by unfold maxLen; simp, fun h => absurd h (by simp)⟩, Nt.canon_nil, rfl, by simp⟩

set_option maxRecDepth 20000 in
set_option maxHeartbeats 4000000 in
theorem div_any {w : World} {va vb : Value} {n m : Int} {ka kb : Nat} (ha : Arg w va n ka) (hb : Arg w vb m kb) (hka : ka ≤ 549755813888) (hkb : kb ≤ 549755813888) (hm0 : 0 < m) :
    Calls Tryz.prog 116 #[va, vb] w fun e w' => ∃ q r, e = .returned (.tuple #[q, r, .bool true]) ∧ Num w.heap.size w' q (n / m) ka ∧ Num w.heap.size w' r (n % m) kb ∧ Below w.heap.size w w' := by
  have hn0 := ha.nonneg
  have hnlt := ha.lt
  have hmlt := hb.lt
  have hqlt : n / m < Nt.pw ka := Int.lt_of_le_of_lt (Int.ediv_le_self _ hn0) hnlt
  have hrlt : n % m < Nt.pw kb := Int.lt_trans (Int.emod_lt_of_pos _ hm0) hmlt
  have Hq := hide hqlt
  have Hr := hide hrlt
  clear hqlt hrlt hnlt hmlt
  go_enter Tryz.func116, Tryz.ntmps116
  go_wp2_with fail
  refine (cut_arg ha (by omega)).mono ?_
  rintro e w' ⟨rfl, ao, xs, ca, rfl, hxl, hxm, hxk, hxc, hx, hxv⟩
  go_wp2_with fail
  refine (cut_arg hb (by omega)).mono ?_
  rintro e w' ⟨rfl, bo, ys, cb, rfl, hyl, hym, hyk, hyc, hy, hyv⟩
  have hyp : 0 < ys.length := by
    rcases Nat.eq_zero_or_pos ys.length with h0 | h0
    · rw [List.eq_nil_of_length_eq_zero h0, Nt.val_nil] at hyv; omega
    · exact h0
  have hy0 : ((ys.length : Int) == 0) = false := by simp; intro e; subst e; simp at hyp
  have aa : Arg w' (.slice ao xs.length ca) n ka := ⟨xs, ⟨ao, ca, rfl, hxl, hxm, hxc⟩, hx.1, hxv, hxk⟩
  have ab : Arg w' (.slice bo ys.length cb) m kb := ⟨ys, ⟨bo, cb, rfl, hyl, hym, hyc⟩, hy.1, hyv, hyk⟩
  have HXv := hide hxv
  have HYv := hide hyv
  clear ha hb hxv hyv
  go_wp2_with fail
  refine (cmp_any aa ab (by omega) (by omega)).mono ?_
  rintro e w1 ⟨rfl, hb1⟩
  by_cases hlt : n < m
  · have hs : sgn n m < 0 := by unfold sgn; rw [if_pos hlt]; omega
    go_wp2_with fail
    refine (norm_any (aa.below hb1) (by omega)).mono ?_
    rintro e w2 ⟨v, rfl, hn, hb2⟩
    have hb12 := below_trans hb1 hb2
    have e1 : n / m = 0 := Int.ediv_eq_zero_of_lt hn0 hlt
    have e2 : n % m = n := Int.emod_eq_of_lt hn0 hlt
    have hnum : Num w'.heap.size w2 v (n % m) kb := by rw [e2]; exact (hn.low hb1.size).tight (by have h := Hr.out; rw [e2] at h; exact h)
    have hnil : Num w'.heap.size w2 (.slice none 0 0) (n / m) ka := by
      rw [e1]
      exact ⟨[], ⟨none, rfl, by unfold maxLen; simp, fun h => absurd h (by simp)⟩, Nt.canon_nil, rfl, by simp⟩
    have HN := hide hnum
    have HZ := hide hnil
    clear hn hnum hnil e1 e2
    go_wp2
    go_ret3
    exact ⟨_, _, rfl, HZ.out, HN.out, hb12⟩
  · have hs : ¬ sgn n m < 0 := by unfold sgn; rw [if_neg hlt]; split <;> omega
    have hs2 : decide (sgn n m < 0) = false := decide_eq_false hs
    by_cases h1 : ys.length = 1
    · obtain ⟨b1, o1, rfl, _, hc⟩ := (hyc.below hb1) (by omega)
      have g0 := hc 0 (by omega)
      rw [Nat.add_zero] at g0
      have hv1 : Nt.lb ys 0 = m := by
        have h := HYv.out
        unfold Nt.val at h
        rw [h1] at h
        simpa [Nt.vt, Nt.pw] using h
      have bm := hy.1 0
      rw [hv1] at g0 bm
      have hq := (small_yes (aa.below hb1) (by omega) hm0 bm.2)
      have r0 : 0 ≤ n % m := Int.emod_nonneg _ (by omega)
      have r1 : n % m < m := Int.emod_lt_of_pos _ hm0
      clear hc
      go_wp2_with fail
      refine hq.mono ?_
      clear hq
      rintro e w2 ⟨v, rfl, hn, hb2⟩
      go_wp2_with fail
      refine (from_any (n % m) r0 (by omega)).mono ?_
      rintro e w3 ⟨v2, rfl, hn2, hb3⟩
      have hq1 : Num w'.heap.size w3 v (n / m) ka := (hn.below hb3).low hb1.size
      have hr1 : Num w'.heap.size w3 v2 (n % m) kb := (hn2.low (Nat.le_trans hb1.size hb2.size)).tight Hr.out
      have hbb := below_trans (below_trans hb1 hb2) hb3
      have HN := hide hr1
      have HZ := hide hq1
      clear hn hn2 hq1 hr1
      go_wp2
      go_ret3
      exact ⟨_, _, rfl, HZ.out, HN.out, hbb⟩
    · obtain ⟨l, hl⟩ : ∃ l, ys.length = l + 2 := ⟨ys.length - 2, by omega⟩
      have hxy : ys.length ≤ xs.length := by
        rcases Nat.lt_or_ge xs.length ys.length with h | h
        · have := Nt.canon_lt hx.1 hy h; rw [HXv.out, HYv.out] at this; omega
        · exact h
      obtain ⟨nq, hnq⟩ : ∃ nq, xs.length + 1 = nq + ys.length := ⟨xs.length + 1 - ys.length, by omega⟩
      obtain ⟨b1, o1, rfl⟩ : ∃ b o, bo = some ⟨b, o, none⟩ := by
        obtain ⟨b, o, h, _⟩ := hyc hyp
        exact ⟨b, o, h⟩
      obtain ⟨b2, o2, hb2e, _, hc⟩ := (hyc.below hb1) hyp
      injection hb2e with hb2e
      injection hb2e with hb2e ho2e
      subst hb2e ho2e
      have g0 := hc (l + 1) (by omega)
      obtain ⟨l1, hl1⟩ : ∃ l1, l1 = l + 1 := ⟨_, rfl⟩
      rw [← hl1] at g0
      have q1 : (ys.length : Int) - 1 = (l1 : Int) := by omega
      have q2 : (l1 : Int) < (ys.length : Int) := by omega
      have q3 : ((ys.length : Int) == 1) = false := by simp; intro h; exact h1 (by omega)
      have bt := hy.1 l1
      have htop : Nt.lb ys l1 ≠ 0 := by
        have h := hy.2 (by intro e; subst e; simp at hyp)
        rw [show ys.length - 1 = l1 by omega] at h
        exact h
      have Htop := hide htop
      have Hl1 := hide hl1
      have Hl := hide hl
      have Hnq := hide hnq
      clear hc htop hl1 hl hnq
      go_wp2_with fail
      refine (leadz_any (Nt.lb ys l1) w1 bt.1 bt.2).mono ?_
      rintro e w2 ⟨k, rfl, hk, hk32, rfl⟩
      have hk0 : 0 < k := by
        rcases Nat.eq_zero_or_pos k with h | h
        · subst h
          have h2 := hk.1
          have h3 := Htop.out
          simp only [p2] at h2
          omega
        · exact h
      have hfits := raised_fits hy hyp (by rw [show ys.length - 1 = l1 by have := Hl.out; have := Hl1.out; omega]; exact hk) hk32
      obtain ⟨u, hu⟩ : ∃ u, u = 32 - k := ⟨_, rfl⟩
      rw [← hu] at hfits
      have HFits := hide hfits
      have Hk := hide hk
      have hu32 : u < 32 := by omega
      have hP := p2_pos u
      rw [← hu]
      clear hfits hk hu hk32 hk0
      go_wp2_with fail
      refine (raised_any (n := u) (ca := ca) (hxc.below hb1) hx.1 (by omega) hu32).mono ?_
      rintro e w3 ⟨g1, zs1, rfl, hg1, hr1, ho1, hzl1, hzv1, hb3⟩
      go_wp2_with fail
      refine (raised_any (n := u) (ca := cb) ((hyc.below hb1).below hb3) hy.1 (by omega) hu32).mono ?_
      rintro e w4 ⟨g2, vs0, rfl, hg2, hr2, ho2, hvl, hvv, hb4⟩
      have hzl : zs1.length = nq + ys.length := by rw [hzl1]; exact Hnq.out
      have hr1b := hr1.keeps hb4
      have hg12 : g2 ≠ g1 := by have := hr1.lt; omega
      have hvall : Nt.vt vs0 ys.length = Nt.val vs0 := Nt.vt_all ho2 (by omega) (by rw [hvv]; exact HFits.out)
      have hvt : Nt.val (vs0.take ys.length) = m * p2 u := by rw [Nt.val_take (by omega), hvall, hvv, HYv.out]
      have hvtl : (vs0.take ys.length).length = ys.length := by rw [List.length_take]; omega
      have hm1 : Nt.pw l1 ≤ m := by
        have h := Nt.canon_low hy (by intro e; subst e; simp at hyp)
        rw [HYv.out, show ys.length - 1 = l1 by have := Hl.out; have := Hl1.out; omega] at h
        exact h
      have hmP : m * 1 ≤ m * p2 u := Int.mul_le_mul_of_nonneg_left (by omega) (by omega)
      have hfirst : 0 < Nt.lb (vs0.take ys.length) (l + 1) := by
        rcases Int.lt_or_le 0 (Nt.lb (vs0.take ys.length) (l + 1)) with h | h
        · exact h
        · exfalso
          have h2 := (Nt.ok_take ho2 ys.length (l + 1)).1
          have h3 : Nt.lb (vs0.take ys.length) (l + 1) = 0 := by omega
          have h4 : Nt.val (vs0.take ys.length) = Nt.vt (vs0.take ys.length) (l + 1) := by
            have h6 := Nt.vt_succ (vs0.take ys.length) (l + 1)
            rw [h3, Int.zero_mul, Int.add_zero] at h6
            unfold Nt.val
            rw [hvtl, ← h6]
            exact congrArg _ Hl.out
          have h5 := (Nt.vt_bounds (Nt.ok_take ho2 ys.length) (l + 1)).2
          rw [← h4, hvt, ← Hl1.out] at h5
          omega
      have hzless : Nt.val zs1 < Nt.val (vs0.take ys.length) * Nt.pw nq := by
        rw [hzv1, hvt, HXv.out]
        have h1 : n < m * Nt.pw nq := by
          have h2 := aa.lt
          have h3 := Nt.val_lt hx.1
          rw [HXv.out, show xs.length = l1 + nq by have := Hl.out; have := Hl1.out; have := Hnq.out; omega, Nt.pw_add] at h3
          have h4 : Nt.pw l1 * Nt.pw nq ≤ m * Nt.pw nq := Int.mul_le_mul_of_nonneg_right hm1 (by have := Nt.pw_pos nq; omega)
          omega
        have h5 := Int.mul_lt_mul_of_pos_right h1 hP
        grind
      have hlong := long_any (w := w4) (vb := g2) (vo := 0) (bc := ys.length + 1) (g := g1) (nq := nq) (L := ys.length) (l := l) hr1b ho1 hzl hvtl Hl.out (by have := Hnq.out; omega) (row_cells_take hr2 (by omega)) (Nt.ok_take ho2 _) hg12 hfirst hzless
      rw [← Hnq.out] at hlong
      have HZ1 := hide hzv1
      have HVt := hide hvt
      have i5 : ys.length ≤ ys.length + 1 := by omega
      clear hvall hvv hvt hvtl hm1 hmP hfirst hzless hzv1 hzl1 hr1
      go_wp2_with fail
      with_reducible refine hlong.mono ?_
      clear hlong
      rintro e w5 ⟨gq, qs, zs2, rfl, hgq, hrq, hql, hqo, hrz, hzl2, hzo2, hval, hless, hon⟩
      have hR0 := Nt.val_nonneg hzo2
      obtain ⟨e1, e2, e3⟩ := div_parts (n := n) (m := m) (P := p2 u) (Q := Nt.val qs) (R := Nt.val zs2) hP hR0 (by rw [← HVt.out]; exact hless) (by rw [← HXv.out, ← HZ1.out, hval, HVt.out]) hm0
      have hb5 : Below w'.heap.size w' w5 := (below_trans (below_trans hb1 hb3) hb4).trans (hon.below (by have := hb1.size; omega) (by have := hb1.size; have := hb3.size; have := hb4.size; omega))
      have hArz : Arg w5 (.slice (some ⟨g1, 0, none⟩) (xs.length + 1) (xs.length + 1)) (Nt.val zs2) (xs.length + 1) := by
        have hzn : zs2.length = xs.length + 1 := by rw [hzl2, hzl]; exact Hnq.out.symm
        refine ⟨zs2, ⟨some ⟨g1, 0, none⟩, _, by rw [hzn], by rw [hzn]; exact Nat.le_refl _, by unfold maxLen; omega, fun _ => ⟨g1, 0, rfl, hrz.lt, fun i hi => by rw [Nat.zero_add]; exact hrz.cell hi⟩⟩, hzo2, rfl, by rw [hzn]; exact Nat.le_refl _⟩
      have hArq : Arg w5 (.slice (some ⟨gq, 0, none⟩) nq nq) (n / m) nq := by
        refine ⟨qs, ⟨some ⟨gq, 0, none⟩, _, by rw [hql], by rw [hql]; exact Nat.le_refl _, by have := Hnq.out; unfold maxLen; omega, fun _ => ⟨gq, 0, rfl, hrq.lt, fun i hi => by rw [Nat.zero_add]; exact hrq.cell hi⟩⟩, hqo, e1, by rw [hql]; exact Nat.le_refl _⟩
      have E2 := hide e2
      have Hzl := hide hzl
      clear e1 e2 e3 hval hless hql hzl2 hon hzl
      go_wp2_with fail
      with_reducible refine (shr_some hArz (by omega) hu32).mono ?_
      rintro e w6 ⟨v6, b6, rfl, hn6, hb6⟩
      go_wp2_with fail
      with_reducible refine (norm_any (hArq.below hb6) (by have := Hnq.out; omega)).mono ?_
      rintro e w7 ⟨v7, rfl, hn7, hb7⟩
      have hq1 : Num w'.heap.size w7 v7 (n / m) ka := (hn7.low (Nat.le_trans hb5.size hb6.size)).tight Hq.out
      have hr1 : Num w'.heap.size w7 v6 (n % m) kb := by
        have h := (hn6.below hb7).low hb5.size
        rw [E2.out] at h
        exact h.tight Hr.out
      have hbb := below_trans (below_trans hb5 hb6) hb7
      have HN := hide hr1
      have HZ := hide hq1
      clear hn6 hn7 hq1 hr1
      go_wp2
      go_ret3
      exact ⟨_, _, rfl, HZ.out, HN.out, hbb⟩

end Go.Proofs.YtinfkoiifemjmaaGreatDoor

namespace Go.Proofs.YtinfkoiifemjmaaGreatDoor
open Go.RowKit

theorem pow_p2 {b : Int} {k : Nat} (hb0 : 0 ≤ b) (hb : b < p2 k) (n : Nat) (hn : 0 < n) : b ^ n < p2 (k * n) := by
  induction n with
  | zero => omega
  | succ n ih =>
    by_cases h : n = 0
    · subst h; simpa [Int.pow_succ] using hb
    · rw [Int.pow_succ, Nat.mul_succ, p2_add]
      have h1 := ih (by omega)
      have h2 : b ^ n * b ≤ b ^ n * p2 k := Int.mul_le_mul_of_nonneg_left (by omega) (Int.pow_nonneg hb0)
      have h3 : b ^ n * p2 k < p2 (k * n) * p2 k := Int.mul_lt_mul_of_pos_right h1 (p2_pos k)
      omega
theorem pow_le_one {b : Int} (hb0 : 0 ≤ b) (hb : b < 2) (n : Nat) : b ^ n ≤ 1 := by
  induction n with
  | zero => simp
  | succ n ih =>
    rw [Int.pow_succ]
    have h1 : b ^ n * b ≤ 1 * b := Int.mul_le_mul_of_nonneg_right ih hb0
    omega
theorem pw_2048 : p2 65536 = Nt.pw 2048 := p2_32 2048
/-- a power in reach has at most 2048 limbs -/
theorem pow_lt {b : Int} {n k : Nat} (hb0 : 0 ≤ b) (hk : IsLen b k) (h : b < 2 ∨ k * n ≤ 65536) : b ^ n < Nt.pw 2048 := by
  have h1 : (1 : Int) < Nt.pw 2048 := by
    have := Nt.pw_mono (m := 1) (n := 2048) (by omega)
    have e : Nt.pw 1 = 4294967296 := by simp [Nt.pw]
    omega
  rcases h with h | h
  · have := pow_le_one hb0 h n; omega
  · by_cases hn : n = 0
    · subst hn; simpa using h1
    · have h2 := pow_p2 hb0 hk.1 n (by omega)
      have h3 := p2_mono h
      rw [pw_2048] at h3
      omega

theorem pow_half {s : Int} (n : Nat) : s ^ n = (s * s) ^ (n / 2) * (if n % 2 = 1 then s else 1) := by
  have e : n = 2 * (n / 2) + n % 2 := by omega
  generalize n / 2 = q at *
  rcases Nat.mod_two_eq_zero_or_one n with h | h
  · rw [h] at e ⊢
    subst e
    rw [Nat.add_zero, Int.pow_mul, Int.pow_succ, Int.pow_one]
    simp
  · rw [h] at e ⊢
    subst e
    rw [Int.pow_succ, Int.pow_mul, Int.pow_succ, Int.pow_one]
    simp

theorem le_of_prod {a b c : Int} (ha : 0 ≤ a) (hb : 1 ≤ b) (h : a * b = c) : a ≤ c := by
  have : a * 1 ≤ a * b := Int.mul_le_mul_of_nonneg_left hb ha
  omega
theorem pow_ge_one {s : Int} (hs : 1 ≤ s) (n : Nat) : 1 ≤ s ^ n := by
  induction n with
  | zero => simp
  | succ n ih =>
    rw [Int.pow_succ]
    have : 1 * s ≤ s ^ n * s := Int.mul_le_mul_of_nonneg_right ih (by omega)
    omega

/-- what a round leaves -/
theorem pow_round {p s b : Int} {n N : Nat} (heq : p * s ^ n = b ^ N) (hc : (1 ≤ p ∧ 1 ≤ s) ∨ (s = 0 ∧ 0 ≤ p ∧ p ≤ 1)) (hlt : b ^ N < Nt.pw 2048) (hn : 0 < n) :
    s < Nt.pw 2048 ∧ (if n % 2 = 1 then p * s else p) < Nt.pw 2048 ∧ (if n % 2 = 1 then p * s else p) * (s * s) ^ (n / 2) = b ^ N ∧
      ((1 ≤ (if n % 2 = 1 then p * s else p) ∧ 1 ≤ s * s) ∨ (s * s = 0 ∧ 0 ≤ (if n % 2 = 1 then p * s else p) ∧ (if n % 2 = 1 then p * s else p) ≤ 1)) := by
  have e3 : (if n % 2 = 1 then p * s else p) * (s * s) ^ (n / 2) = b ^ N := by
    rw [← heq, pow_half n]
    split <;> grind
  have h1 : (1 : Int) < Nt.pw 2048 := by
    have := Nt.pw_mono (m := 1) (n := 2048) (by omega)
    have e : Nt.pw 1 = 4294967296 := by simp [Nt.pw]
    omega
  rcases hc with ⟨hp, hs⟩ | ⟨hs, hp0, hp1⟩
  · have hss : 1 ≤ s * s := by have : 1 * s ≤ s * s := Int.mul_le_mul_of_nonneg_right hs (by omega); omega
    have hps : 1 ≤ (if n % 2 = 1 then p * s else p) := by
      split
      · have : 1 * s ≤ p * s := Int.mul_le_mul_of_nonneg_right hp (by omega); omega
      · exact hp
    have hle := le_of_prod (by omega) (pow_ge_one hss (n / 2)) e3
    have hsn : s ≤ s ^ n := by
      obtain ⟨k, rfl⟩ : ∃ k, n = k + 1 := ⟨n - 1, by omega⟩
      rw [Int.pow_succ]
      have h3 : 1 * s ≤ s ^ k * s := Int.mul_le_mul_of_nonneg_right (pow_ge_one hs k) (by omega)
      omega
    have hle2 : s ^ n ≤ b ^ N := le_of_prod (b := p) (by omega) hp (by rw [Int.mul_comm]; exact heq)
    exact ⟨by omega, by omega, e3, Or.inl ⟨hps, hss⟩⟩
  · subst hs
    refine ⟨by omega, ?_, e3, Or.inr ⟨by simp, ?_, ?_⟩⟩
    · split
      · simp; omega
      · omega
    · split
      · simp
      · omega
    · split
      · simp
      · omega

set_option maxRecDepth 20000 in
set_option maxHeartbeats 4000000 in
theorem pow_ok {w : World} {b : Int} {N k : Nat} (hb0 : 0 ≤ b) (hb1 : b < 4294967296) (hk : IsLen b k) (hN : (N : Int) ≤ 9223372036854775807) (hin : b < 2 ∨ (N : Int) ≤ 65536 / (k : Int)) :
    Calls Tryz.prog 72 #[.int .u32 b, .int .i64 N] w fun e w' => ∃ v, e = .returned (.tuple #[v, .bool true]) ∧ Num w.heap.size w' v (b ^ N) 2048 ∧ Below w.heap.size w w' := by
  have hlt : b ^ N < Nt.pw 2048 := pow_lt hb0 hk (by
    rcases hin with h | h
    · exact Or.inl h
    · by_cases hk0 : k = 0
      · subst hk0; right; omega
      · right
        have h2 : (N : Int) * (k : Int) ≤ 65536 := Int.le_trans (Int.mul_le_mul_of_nonneg_right h (by omega)) (Int.ediv_mul_le _ (by omega))
        have h3 : ((k * N : Nat) : Int) = (N : Int) * (k : Int) := by rw [Int.natCast_mul, Int.mul_comm]
        omega)
  have HLt := hide hlt
  have Hk := hide hk
  have hn' : ¬ (N : Int) < 0 := by omega
  clear hlt hk
  go_enter Tryz.func72, Tryz.ntmps72
  by_cases h2 : 2 ≤ b
  · go_wp2_with fail
    refine (len32_any b w hb0 hb1).mono ?_
    rintro e w' ⟨k', rfl, hk', _, rfl⟩
    have hkk : k' = k := isLen_unique hk' Hk.out
    subst hkk
    have hkz : ¬ (k' : Int) = 0 := by
      intro h
      have h3 : k' = 0 := by omega
      have h4 := hk'.1
      rw [h3] at h4
      simp only [p2] at h4
      omega
    have hin2 : ¬ 65536 / (k' : Int) < (N : Int) := by omega
    have hin3 : decide (65536 / (k' : Int) < (N : Int)) = false := decide_eq_false hin2
    obtain ⟨Q, hQ⟩ : ∃ Q, 65536 / (k' : Int) = Q := ⟨_, rfl⟩
    rw [hQ] at hin2 hin3
    clear hk' hin
    go_wp2_with fail
    with_reducible refine (from_any (w := w') 1 (by omega) (by omega)).mono ?_
    rintro e w1 ⟨vp, rfl, hn1, hb1w⟩
    go_wp2_with fail
    with_reducible refine (from_any b hb0 (by omega)).mono ?_
    rintro e w2 ⟨vs, rfl, hn2, hb2w⟩
    have hp0 : Num w'.heap.size w2 vp 1 2048 := (hn1.below hb2w).mono (by omega)
    have hs0 : Num w'.heap.size w2 vs b 4096 := (hn2.low hb1w.size).mono (by omega)
    have hbb := below_trans hb1w hb2w
    clear hn1 hn2 hb1w hb2w
    go_wp2
    go_loopg [6, 7, 1] N (fun c sp ss sn wr => ∃ (p s : Int), sn = .int .i64 c ∧ (c : Int) ≤ 9223372036854775807 ∧ Num w'.heap.size wr sp p 2048 ∧ Num w'.heap.size wr ss s 4096 ∧ p * s ^ c = b ^ N ∧ ((1 ≤ p ∧ 1 ≤ s) ∨ (s = 0 ∧ 0 ≤ p ∧ p ≤ 1)) ∧ Below w'.heap.size w' wr)
    case atStart => exact ⟨1, b, rfl, hN, hp0, hs0, by simp, by omega, hbb⟩
    case round =>
      clear hp0 hs0 hbb
      obtain ⟨p, s, rfl, hc, hnp, hns, heq, hcase, hbw⟩ := hrel
      by_cases hz : gk = 0
      · subst hz
        have hfin : p = b ^ N := by simpa using heq
        have HF := hide hfin
        clear hfin heq
        go_wp2
        go_ret2
        exact ⟨_, rfl, by rw [← HF.out]; exact hnp, hbw⟩
      · have hpos : (0 : Int) < (gk : Int) := by omega
        obtain ⟨q1, q2, q3, q4⟩ := pow_round heq hcase HLt.out (by omega : 0 < gk)
        have hns2 := hns.tight q1
        have hcase2 := q4
        have Q2 := hide q2
        have Q3 := hide q3
        have Heq := hide heq
        have HC := hide hcase
        clear q1 q2 q3 q4 heq hcase
        obtain ⟨hk2, hh2⟩ : ∃ h, h = gk / 2 := ⟨_, rfl⟩
        have j1 : (gk : Int) / 2 = (hk2 : Int) := by omega
        rw [← hh2] at Q3
        have hk2lt : hk2 < gk := by omega
        clear hh2
        by_cases hodd : gk % 2 = 1
        · have j2 : (gk : Int) % 2 = 1 := by omega
          have j3 : ((gk : Int) % 2 == 1) = true := by simp [j2]
          go_wp2_with fail
          with_reducible refine (mul_any hnp.arg hns2.arg (by omega) (by omega)).mono ?_
          rintro e w3 ⟨v3, rfl, hn3, hb3⟩
          go_wp2_with fail
          with_reducible refine (mul_any (hns2.below hb3).arg (hns2.below hb3).arg (by omega) (by omega)).mono ?_
          rintro e w4 ⟨v4, rfl, hn4, hb4⟩
          have hp4 : Num w'.heap.size w4 v3 (p * s) 2048 := ((hn3.below hb4).low hbw.size).tight (by have h := Q2.out; rw [if_pos hodd] at h; exact h)
          have hs4 : Num w'.heap.size w4 v4 (s * s) 4096 := (hn4.low (Nat.le_trans hbw.size hb3.size)).mono (by omega)
          have hbb4 := below_trans (below_trans hbw hb3) hb4
          have hq3 : p * s * (s * s) ^ hk2 = b ^ N := by have h := Q3.out; rw [if_pos hodd] at h; exact h
          have hq4 : (1 ≤ p * s ∧ 1 ≤ s * s) ∨ (s * s = 0 ∧ 0 ≤ p * s ∧ p * s ≤ 1) := by rw [if_pos hodd] at hcase2; exact hcase2
          have HQ3 := hide hq3
          have HQ4 := hide hq4
          clear hn3 hn4 hb3 hb4 hq3 hq4 hcase2
          go_wp2
          go_roundg hk2
          case measure => omega
          case rel => exact ⟨p * s, s * s, by first | rfl | (rw [← j1]; rfl) | simp [j1], by omega, hp4, hs4, HQ3.out, HQ4.out, hbb4⟩
        · have j2 : (gk : Int) % 2 = 0 := by omega
          have j3 : ((gk : Int) % 2 == 1) = false := by simp [j2]
          go_wp2_with fail
          with_reducible refine (mul_any hns2.arg hns2.arg (by omega) (by omega)).mono ?_
          rintro e w4 ⟨v4, rfl, hn4, hb4⟩
          have hp4 : Num w'.heap.size w4 _ p 2048 := hnp.below hb4
          have hs4 : Num w'.heap.size w4 v4 (s * s) 4096 := (hn4.low hbw.size).mono (by omega)
          have hbb4 := below_trans hbw hb4
          have hq3 : p * (s * s) ^ hk2 = b ^ N := by have h := Q3.out; rw [if_neg hodd] at h; exact h
          have hq4 : (1 ≤ p ∧ 1 ≤ s * s) ∨ (s * s = 0 ∧ 0 ≤ p ∧ p ≤ 1) := by rw [if_neg hodd] at hcase2; exact hcase2
          have HQ3 := hide hq3
          have HQ4 := hide hq4
          clear hn4 hb4 hq3 hq4 hcase2
          go_wp2
          go_roundg hk2
          case measure => omega
          case rel => exact ⟨p, s * s, by first | rfl | (rw [← j1]; rfl) | simp [j1], by omega, hp4, hs4, HQ3.out, HQ4.out, hbb4⟩
  · have hb2 : ¬ 2 ≤ b := h2
    clear hin
    go_wp2_with fail
    with_reducible refine (from_any (w := w) 1 (by omega) (by omega)).mono ?_
    rintro e w1 ⟨vp, rfl, hn1, hb1w⟩
    go_wp2_with fail
    with_reducible refine (from_any b hb0 (by omega)).mono ?_
    rintro e w2 ⟨vs, rfl, hn2, hb2w⟩
    have hp0 : Num w.heap.size w2 vp 1 2048 := (hn1.below hb2w).mono (by omega)
    have hs0 : Num w.heap.size w2 vs b 4096 := (hn2.low hb1w.size).mono (by omega)
    have hbb := below_trans hb1w hb2w
    clear hn1 hn2 hb1w hb2w
    go_wp2
    go_loopg [6, 7, 1] N (fun c sp ss sn wr => ∃ (p s : Int), sn = .int .i64 c ∧ (c : Int) ≤ 9223372036854775807 ∧ Num w.heap.size wr sp p 2048 ∧ Num w.heap.size wr ss s 4096 ∧ p * s ^ c = b ^ N ∧ ((1 ≤ p ∧ 1 ≤ s) ∨ (s = 0 ∧ 0 ≤ p ∧ p ≤ 1)) ∧ Below w.heap.size w wr)
    case atStart => exact ⟨1, b, rfl, hN, hp0, hs0, by simp, by omega, hbb⟩
    case round =>
      clear hp0 hs0 hbb
      obtain ⟨p, s, rfl, hc, hnp, hns, heq, hcase, hbw⟩ := hrel
      by_cases hz : gk = 0
      · subst hz
        have hfin : p = b ^ N := by simpa using heq
        have HF := hide hfin
        clear hfin heq
        go_wp2
        go_ret2
        exact ⟨_, rfl, by rw [← HF.out]; exact hnp, hbw⟩
      · have hpos : (0 : Int) < (gk : Int) := by omega
        obtain ⟨q1, q2, q3, q4⟩ := pow_round heq hcase HLt.out (by omega : 0 < gk)
        have hns2 := hns.tight q1
        have hcase2 := q4
        have Q2 := hide q2
        have Q3 := hide q3
        have Heq := hide heq
        have HC := hide hcase
        clear q1 q2 q3 q4 heq hcase
        obtain ⟨hk2, hh2⟩ : ∃ h, h = gk / 2 := ⟨_, rfl⟩
        have j1 : (gk : Int) / 2 = (hk2 : Int) := by omega
        rw [← hh2] at Q3
        have hk2lt : hk2 < gk := by omega
        clear hh2
        by_cases hodd : gk % 2 = 1
        · have j2 : (gk : Int) % 2 = 1 := by omega
          have j3 : ((gk : Int) % 2 == 1) = true := by simp [j2]
          go_wp2_with fail
          with_reducible refine (mul_any hnp.arg hns2.arg (by omega) (by omega)).mono ?_
          rintro e w3 ⟨v3, rfl, hn3, hb3⟩
          go_wp2_with fail
          with_reducible refine (mul_any (hns2.below hb3).arg (hns2.below hb3).arg (by omega) (by omega)).mono ?_
          rintro e w4 ⟨v4, rfl, hn4, hb4⟩
          have hp4 : Num w.heap.size w4 v3 (p * s) 2048 := ((hn3.below hb4).low hbw.size).tight (by have h := Q2.out; rw [if_pos hodd] at h; exact h)
          have hs4 : Num w.heap.size w4 v4 (s * s) 4096 := (hn4.low (Nat.le_trans hbw.size hb3.size)).mono (by omega)
          have hbb4 := below_trans (below_trans hbw hb3) hb4
          have hq3 : p * s * (s * s) ^ hk2 = b ^ N := by have h := Q3.out; rw [if_pos hodd] at h; exact h
          have hq4 : (1 ≤ p * s ∧ 1 ≤ s * s) ∨ (s * s = 0 ∧ 0 ≤ p * s ∧ p * s ≤ 1) := by rw [if_pos hodd] at hcase2; exact hcase2
          have HQ3 := hide hq3
          have HQ4 := hide hq4
          clear hn3 hn4 hb3 hb4 hq3 hq4 hcase2
          go_wp2
          go_roundg hk2
          case measure => omega
          case rel => exact ⟨p * s, s * s, by first | rfl | (rw [← j1]; rfl) | simp [j1], by omega, hp4, hs4, HQ3.out, HQ4.out, hbb4⟩
        · have j2 : (gk : Int) % 2 = 0 := by omega
          have j3 : ((gk : Int) % 2 == 1) = false := by simp [j2]
          go_wp2_with fail
          with_reducible refine (mul_any hns2.arg hns2.arg (by omega) (by omega)).mono ?_
          rintro e w4 ⟨v4, rfl, hn4, hb4⟩
          have hp4 : Num w.heap.size w4 _ p 2048 := hnp.below hb4
          have hs4 : Num w.heap.size w4 v4 (s * s) 4096 := (hn4.low hbw.size).mono (by omega)
          have hbb4 := below_trans hbw hb4
          have hq3 : p * (s * s) ^ hk2 = b ^ N := by have h := Q3.out; rw [if_neg hodd] at h; exact h
          have hq4 : (1 ≤ p ∧ 1 ≤ s * s) ∨ (s * s = 0 ∧ 0 ≤ p ∧ p ≤ 1) := by rw [if_neg hodd] at hcase2; exact hcase2
          have HQ3 := hide hq3
          have HQ4 := hide hq4
          clear hn4 hb4 hq3 hq4 hcase2
          go_wp2
          go_roundg hk2
          case measure => omega
          case rel => exact ⟨p, s * s, by first | rfl | (rw [← j1]; rfl) | simp [j1], by omega, hp4, hs4, HQ3.out, HQ4.out, hbb4⟩

end Go.Proofs.YtinfkoiifemjmaaGreatDoor
