/- Halves, Mul, Div, Pow, Lives, Consts, QBytes, QTrim, QFrom, DigC, ReadC, Gcd, QLives, QKit, QLess, QStr, RBy, DigD -/
import Derived.Test.YtejenbkhhcjeaaaGreatDoorR03
import Derived.Test.YtejenbkhhcjeaaaGreatDoorR02
import Derived.Test.YtejenbkhhcjeaaaGreatDoorR04
import Derived.Deep.Cut
import Derived.Deep.CutRange
import Derived.Deep.RegionHeld3
import Derived.Deep.RegionWith
import Derived.Test.YtejenbkhhcjeaaaGreatDoorR05
import Derived.Deep.LoopGhost
import Derived.LoopN
import Derived.Laws.BytesArg
namespace Go.Proofs.YtejenbkhhcjeaaaGreatDoor
open Go.RowKit

def MulOk (N : Nat) : Prop := ∀ (w : World) (va vb : Value) (n m : Int) (ka kb : Nat), Arg w va n ka → Arg w vb m kb → ka ≤ 549755813888 → kb ≤ 549755813888 → ka < N ∨ kb < N →
  Calls Tryz.prog 125 #[va, vb] w fun e w' => ∃ v, e = .returned v ∧ Num w.heap.size w' v (n * m) (ka + kb) ∧ Below w.heap.size w w'

theorem arg_slice {w : World} {ao : Option Addr} {xs : List Int} {n cap : Nat} (hl : xs.length = n) (hc : n ≤ cap) (hm : cap ≤ maxLen) (h : Cells .u32 w ao xs) (ho : Nt.Ok xs) : Arg w (.slice ao n cap) (Nt.val xs) n := by
  subst hl
  exact ⟨xs, ⟨ao, cap, rfl, hc, hm, h⟩, ho, rfl, Nat.le_refl _⟩

theorem Num.low {B B' : Nat} {w : World} {v : Value} {n : Int} {k : Nat} (h : Num B w v n k) (hB : B' ≤ B) : Num B' w v n k := by
  obtain ⟨zs, ⟨ao, h1, h2, h3⟩, hr⟩ := h
  refine ⟨zs, ⟨ao, h1, h2, fun hp => ?_⟩, hr⟩
  obtain ⟨g, rest, h4, h5, h6⟩ := h3 hp
  exact ⟨g, rest, h4, Nat.le_trans hB h5, h6⟩

/-- copy into a row of numbers, by lists of numbers -/
theorem wpList_copy_row {ops : Array Oper} {rest : List Oper} {o : Oper} {a : Act} {w : World} {Q : Exit → Act → World → Prop} (hg : o.guard = none) (d s : Operand)
    (ho : o.op = .call { callee := .builtin .copy, args := #[d, s], argTypes := #[23, 23] }) (da sa : Option Addr) (dl dc sl sc : Nat) (hd : a.eval d = .slice da dl dc) (hs : a.eval s = .slice sa sl sc)
    (g off : Nat) (os zs : List Int) (hr : Row .u32 41 w g os) (hda : 0 < zs.length → da = some ⟨g, off, none⟩) (hz : Cells .u32 w sa zs) (hl : zs.length = sl) (hdl : sl ≤ dl) (hfit : off + sl ≤ os.length) (w0 : World) (hb : Below g w0 w) (ls : List Int) (hls : os.take off ++ (zs ++ os.drop (off + zs.length)) = ls)
    (hK : ∀ w', Row .u32 41 w' g ls → Below g w0 w' → wpList Tryz.prog ops Q rest (a.put o.dst (goInt zs.length)) w') : wpList Tryz.prog ops Q (o :: rest) a w := by
  refine wpList_copy_splice hg d s 23 23 ho 41 Tryz.underlying23 Tryz.sizeU32 da sa dl dc sl sc hd hs g off (os.map (Value.int .u32)) 41 hr (zs.map (Value.int .u32)) (by rw [List.length_map]; unfold Nat.min; omega) ?_ (by simp only [List.length_map]; omega) (ints_oneCell _ _) g w0 hb (Nat.le_refl _) ?_
  · intro hp
    rw [List.length_map] at hp
    obtain ⟨b, o1, rfl, h2, h3⟩ := hz hp
    refine ⟨hda hp, _, rfl, fun j v hv => ?_⟩
    have hj : j < zs.length := by have := (List.getElem?_eq_some_iff.1 hv).1; rw [List.length_map] at this; exact this
    rw [Addr.add_lit, h3 j hj]
    simp [hj] at hv
    rw [← hv]; simp [Nt.lb, hj]
  · intro w' h1 h2
    have h := h1.out
    rw [List.length_map]
    refine hK w' ?_ h2
    rw [← hls]
    unfold Row
    rw [h]
    unfold splice
    simp [List.map_take, List.map_drop]

theorem splice_first (n : Nat) (xs : List Int) : (List.replicate n (0 : Int)).take 0 ++ (xs ++ (List.replicate n (0 : Int)).drop (0 + xs.length)) = xs ++ List.replicate (n - xs.length) 0 := by
  rw [List.take_replicate, List.drop_replicate]
  simp

theorem splice_second (n k : Nat) (lo hi : List Int) (h : lo.length ≤ k) (h' : k + hi.length ≤ n) : (lo ++ List.replicate (n - lo.length) (0 : Int)).take k ++ (hi ++ (lo ++ List.replicate (n - lo.length) (0 : Int)).drop (k + hi.length)) = (lo ++ List.replicate (k - lo.length) 0) ++ (hi ++ List.replicate (n - k - hi.length) 0) := by
  rw [List.take_append, List.drop_append, List.take_of_length_le h, List.drop_of_length_le (by omega : lo.length ≤ k + hi.length), List.take_replicate, List.drop_replicate]
  simp only [List.nil_append, List.append_assoc]
  rw [show min (k - lo.length) (n - lo.length) = k - lo.length by omega, show n - lo.length - (k + hi.length - lo.length) = n - k - hi.length by omega]

theorem val_pieces (n k : Nat) (lo hi : List Int) (h : lo.length ≤ k) : Nt.val ((lo ++ List.replicate (k - lo.length) 0) ++ (hi ++ List.replicate (n - k - hi.length) 0)) = Nt.val lo + Nt.pw k * Nt.val hi := by
  rw [Nt.val_append, Nt.val_append, Nt.val_append, Nt.val_replicate, Nt.val_replicate]
  rw [List.length_append, List.length_replicate, show lo.length + (k - lo.length) = k by omega]
  simp

set_option maxHeartbeats 4000000 in
theorem halves_any {N : Nat} (hI : MulOk N) {w : World} {ab aoff ca bb boff cb : Nat} {xs ys : List Int} (hxl : xs.length ≤ ca) (hca : ca ≤ maxLen) (hyl : ys.length ≤ cb) (hcb : cb ≤ maxLen)
    (hxc : Cells .u32 w (some ⟨ab, aoff, none⟩) xs) (hyc : Cells .u32 w (some ⟨bb, boff, none⟩) ys) (hxo : Nt.Ok xs) (hyo : Nt.Ok ys) (hy0 : 0 < ys.length) (h100 : 100 < xs.length) (hyx : ys.length ≤ xs.length) (hN : xs.length ≤ N) (hm : xs.length ≤ 549755813888) :
    Calls Tryz.prog 176 #[.slice (some ⟨ab, aoff, none⟩) xs.length ca, .slice (some ⟨bb, boff, none⟩) ys.length cb] w fun e w' => ∃ (g : Nat) (zs : List Int), e = .returned (.slice (some ⟨g, 0, none⟩) zs.length zs.length) ∧ w.heap.size ≤ g ∧
      Row .u32 41 w' g zs ∧ Nt.Ok zs ∧ zs.length = xs.length + ys.length ∧ Nt.val zs = Nt.val xs * Nt.val ys ∧ Below w.heap.size w w' := by
  unfold MulOk at hI
  obtain ⟨h, hh⟩ : ∃ h, h = xs.length / 2 := ⟨_, rfl⟩
  obtain ⟨c, hc⟩ : ∃ c, c = min h ys.length := ⟨_, rfl⟩
  have hhx : h ≤ xs.length := by omega
  have hcy : c ≤ ys.length := by omega
  have A0 : Arg w (.slice (some ⟨ab, aoff, none⟩) h ca) (Nt.val (xs.take h)) h := arg_slice (by rw [List.length_take]; omega) (by omega) hca (hxc.take hhx) (Nt.ok_take hxo _)
  have A1 : Arg w (.slice (some ⟨ab, aoff + h, none⟩) (xs.length - h) (ca - h)) (Nt.val (xs.drop h)) (xs.length - h) := arg_slice (by rw [List.length_drop]) (by omega) (by omega) (cells_drop hxc h) (Nt.ok_drop hxo _)
  have B0 : Arg w (.slice (some ⟨bb, boff, none⟩) c cb) (Nt.val (ys.take c)) c := arg_slice (by rw [List.length_take]; omega) (by omega) hcb (hyc.take hcy) (Nt.ok_take hyo _)
  obtain ⟨bo1, hbo1⟩ : ∃ bo1 : Option Addr, (if cb = c then some (⟨bb, boff, none⟩ : Addr) else some ⟨bb, boff + c, none⟩) = bo1 := ⟨_, rfl⟩
  have hcb1 : Cells .u32 w bo1 (ys.drop c) := by
    rw [← hbo1]
    split
    · intro hp; rw [List.length_drop] at hp; omega
    · exact cells_drop hyc c
  have B1 : Arg w (.slice bo1 (ys.length - c) (cb - c)) (Nt.val (ys.drop c)) (ys.length - c) := arg_slice (by rw [List.length_drop]) (by omega) (by omega) hcb1 (Nt.ok_drop hyo _)
  have j1 : (xs.length : Int) / 2 = (h : Int) := by omega
  have j2 : (if ys.length < h then (ys.length : Int) else (h : Int)) = (c : Int) := by split <;> omega
  have i1 : h ≤ ca := by omega
  have i2 : c ≤ cb := by omega
  have i3 : ¬ ca = h := by omega
  have n1 : (0 : Int) ≤ (h : Int) := by omega
  have n2 : (h : Int) ≤ (ca : Int) := by omega
  have n3 : (h : Int) ≤ (xs.length : Int) := by omega
  have n4 : (0 : Int) ≤ (c : Int) := by omega
  have n5 : (c : Int) ≤ (cb : Int) := by omega
  have n6 : (c : Int) ≤ (ys.length : Int) := by omega
  have HH := hide hh
  have HC := hide hc
  clear hh hc
  go_enter Tryz.func176, Tryz.ntmps176
  go_upto_region 3 with fail
  go_cut [7] from 11 (fun s w1 => ∃ v, s = v ∧ Num w.heap.size w1 v (Nt.val (xs.take h) * Nt.val (ys.take c)) (h + c) ∧ Below w.heap.size w w1)
  case first =>
    go_region_held3 (fun _ => True) (trivial) (first | (go_at_call 125; refine (hI _ _ _ _ _ _ _ (A0.below (Below.refl _ _).drew) (B0.below (Below.refl _ _).drew) (by omega) (by omega) (by omega)).mono ?_; rintro e w1 ⟨v, rfl, hn, hb⟩))
    all_goals go_wp2_with fail
    all_goals go_meet
    all_goals exact ⟨_, rfl, hn, below_trans (Below.refl _ _).drew hb⟩
  case rest =>
  obtain ⟨vl, rfl, hnl, hb1⟩ := hcut
  rename World => w1
  replace A0 := A0.below hb1
  replace A1 := A1.below hb1
  replace B0 := B0.below hb1
  replace B1 := B1.below hb1
  go_upto_region 4 with fail
  go_cut [8] from 11 (fun s w2 => ∃ v, s = v ∧ Num w1.heap.size w2 v (Nt.val (xs.drop h) * Nt.val (ys.drop c)) ((xs.length - h) + (ys.length - c)) ∧ Below w1.heap.size w1 w2)
  case first =>
    go_region_held3 (fun _ => True) (trivial) (first | (go_at_call 125; refine (hI _ _ _ _ _ _ _ (A1.below (Below.refl _ _).drew) (B1.below (Below.refl _ _).drew) (by omega) (by omega) (by omega)).mono ?_; rintro e w2 ⟨v, rfl, hn, hb⟩))
    all_goals go_wp2_with fail
    all_goals go_meet
    all_goals exact ⟨_, rfl, hn, below_trans (Below.refl _ _).drew hb⟩
  case rest =>
  obtain ⟨vh, rfl, hnh, hb2⟩ := hcut
  rename World => w2
  replace A0 := A0.below hb2
  replace A1 := A1.below hb2
  replace B0 := B0.below hb2
  replace B1 := B1.below hb2
  have hnl2 := hnl.below hb2
  have hb02 := below_trans hb1 hb2
  clear hnl hb1 hb2
  go_upto_region 5 with fail
  go_cut [9] from 11 (fun s w3 => ∃ v, s = v ∧ Num w2.heap.size w3 v ((Nt.val (xs.take h) + Nt.val (xs.drop h)) * (Nt.val (ys.take c) + Nt.val (ys.drop c))) ((max h (xs.length - h) + 1) + (max c (ys.length - c) + 1)) ∧ Below w2.heap.size w2 w3)
  case first =>
    have hd : Below w2.heap.size w2 w2.drew := (Below.refl _ _).drew
    go_region_held3 (fun _ => True) (trivial) (first
      | (go_at_call 125
         first
           | (with_reducible refine (hI _ _ _ _ _ _ _ (hna.arg.below hbb) hnb.arg (by omega) (by omega) (by omega)).mono ?_; rintro e w2 ⟨v, rfl, hn, hb⟩)
           | (with_reducible refine (hI _ _ _ _ _ _ _ hna.arg (hnb.arg.below hba) (by omega) (by omega) (by omega)).mono ?_; rintro e w2 ⟨v, rfl, hn, hb⟩))
      | (go_at_call 39
         first
           | (with_reducible refine (add_any (A0.below hd) (A1.below hd) (by omega) (by omega)).mono ?_; rintro e wa ⟨va, rfl, hna, hba⟩)
           | (with_reducible refine (add_any (A0.below (below_trans hd hbb)) (A1.below (below_trans hd hbb)) (by omega) (by omega)).mono ?_; rintro e wa ⟨va, rfl, hna, hba⟩)
           | (with_reducible refine (add_any (B0.below hd) (B1.below hd) (by omega) (by omega)).mono ?_; rintro e wb ⟨vb, rfl, hnb, hbb⟩)
           | (with_reducible refine (add_any (B0.below (below_trans hd hba)) (B1.below (below_trans hd hba)) (by omega) (by omega)).mono ?_; rintro e wb ⟨vb, rfl, hnb, hbb⟩)))
    all_goals go_wp2_with fail
    all_goals go_meet
    all_goals first
      | exact ⟨_, rfl, hn.low (Nat.le_trans hba.size hbb.size), below_trans (below_trans hd hba) (below_trans hbb hb)⟩
      | exact ⟨_, rfl, hn.low (Nat.le_trans hbb.size hba.size), below_trans (below_trans hd hbb) (below_trans hba hb)⟩
  case rest =>
  obtain ⟨vm, rfl, hnm, hb3⟩ := hcut
  rename World => w3
  replace hnl2 := hnl2.below hb3
  have hnh2 := hnh.below hb3
  have hb03 := below_trans hb02 hb3
  clear hnh hb3 hb02 A0 A1 B0 B1
  go_wp2_with fail
  refine (add_any hnl2.arg hnh2.arg (by omega) (by omega)).mono ?_
  rintro e w4 ⟨vs, rfl, hns, hb4⟩
  have hge : Nt.val (xs.take h) * Nt.val (ys.take c) + Nt.val (xs.drop h) * Nt.val (ys.drop c) ≤ (Nt.val (xs.take h) + Nt.val (xs.drop h)) * (Nt.val (ys.take c) + Nt.val (ys.drop c)) :=
    Nt.kara_mid (Nt.val_nonneg (Nt.ok_take hxo _)) (Nt.val_nonneg (Nt.ok_drop hxo _)) (Nt.val_nonneg (Nt.ok_take hyo _)) (Nt.val_nonneg (Nt.ok_drop hyo _))
  have Hge := hide hge
  clear hge
  go_wp2_with fail
  refine (sub_yes (hnm.arg.below hb4) hns.arg (by omega) (by omega) Hge.out).mono ?_
  rintro e w5 ⟨vd, rfl, hnd, hb5⟩
  replace hnl2 := (hnl2.below hb4).below hb5
  replace hnh2 := (hnh2.below hb4).below hb5
  have hb05 := below_trans (below_trans hb03 hb4) hb5
  clear hns hnm hb4 hb5 hb03
  go_wp2_with (at_make; refine wpList_make_row _ rfl _ _ 23 rfl 41 .u32 4 Tryz.underlying23 Tryz.infoU32 _ _ _ _ (xs.length + ys.length) (xs.length + ys.length) rfl rfl (by omega) (by omega) (Nat.le_refl _) (by omega) (by unfold maxLen; omega) ?_)
  intro w6 hr6 hb6 hsz
  obtain ⟨lo, ⟨lao, rfl, hlm, hlr⟩, hlc, hlv, hll⟩ := hnl2
  obtain ⟨hi, ⟨hao, rfl, hhm, hhr⟩, hhc, hhv, hhl⟩ := hnh2
  obtain ⟨md, hmm, hmc, hmv, hml⟩ := hnd
  have hmr : Reads .u32 w6 vd md := hmm.reads.below hb6
  obtain ⟨mo, mcap, rfl, hmcl, hmcm, hmcc⟩ := hmr
  have hlcell : Cells .u32 w5 lao lo := fun hp => by
    obtain ⟨g, rest, h4, _, h5⟩ := hlr hp
    exact ⟨g, 0, h4, h5.lt, fun i hi => by rw [Nat.zero_add, h5.cell (by rw [List.length_append]; omega), lb_append_left hi]⟩
  have hhcell : Cells .u32 w5 hao hi := fun hp => by
    obtain ⟨g, rest, h4, _, h5⟩ := hhr hp
    exact ⟨g, 0, h4, h5.lt, fun i hi => by rw [Nat.zero_add, h5.cell (by rw [List.length_append]; omega), lb_append_left hi]⟩
  have hmcell : Cells .u32 w5 mo md := by
    obtain ⟨ao, e, _, h3⟩ := hmm
    injection e with e1 e2 e3
    subst e1
    intro hp
    obtain ⟨g, rest, h4, _, h5⟩ := h3 hp
    exact ⟨g, 0, h4, h5.lt, fun i hi => by rw [Nat.zero_add, h5.cell (by rw [List.length_append]; omega), lb_append_left hi]⟩
  have hhz : 2 * h + hi.length ≤ xs.length + ys.length := by
    have h1 := HH.out
    have h2 := HC.out
    by_cases e : ys.length ≤ h
    · have h3 : c = ys.length := by omega
      have h4 : Nt.val (ys.drop c) = 0 := by rw [h3, List.drop_length]; rfl
      rw [h4, Int.mul_zero] at hhv
      have h5 := (Nt.canon_zero hhc).1 hhv
      rw [h5]
      simp only [List.length_nil]
      omega
    · omega
  have hlz : lo.length ≤ 2 * h := by have := HC.out; omega
  clear hlr hhr hmm hmcc
  have q1 : 2 * h < xs.length + ys.length := by omega
  have q2 : ¬ xs.length + ys.length = 2 * h := by omega
  have q3 : ¬ xs.length + ys.length = h := by omega
  have q4 : h < xs.length + ys.length := by omega
  have q5 : IntKind.i64.wrap (2 * (h : Int)) = 2 * (h : Int) := by rw [IntKind.wrap_i64]; omega
  obtain ⟨l1, hl1⟩ : ∃ l1, (List.replicate (xs.length + ys.length) (0 : Int)).take 0 ++ (lo ++ (List.replicate (xs.length + ys.length) (0 : Int)).drop (0 + lo.length)) = l1 := ⟨_, rfl⟩
  have Hl1 := hide hl1
  rw [splice_first] at hl1
  obtain ⟨os, hos0⟩ : ∃ os, l1.take (2 * h) ++ (hi ++ l1.drop (2 * h + hi.length)) = os := ⟨_, rfl⟩
  have Hos0 := hide hos0
  rw [← hl1, splice_second _ _ _ _ hlz hhz] at hos0
  have hos : Nt.Ok os := by rw [← hos0]; exact Nt.ok_append (Nt.ok_append hlc.1 (Nt.ok_replicate _)) (Nt.ok_append hhc.1 (Nt.ok_replicate _))
  have hvs := val_pieces (xs.length + ys.length) (2 * h) lo hi hlz
  have hls : os.length = xs.length + ys.length := by rw [← hos0]; simp; omega
  have hl1l : l1.length = xs.length + ys.length := by rw [← hl1]; simp; omega
  have HL1 := hide hl1l
  rw [hos0] at hvs
  clear hl1 hos0 hl1l
  have hsum : Nt.val os + Nt.val md * Nt.pw h = Nt.val xs * Nt.val ys := by
    rw [hvs, hlv, hhv, hmv, Nt.val_split hhx]
    have hys : Nt.val ys = Nt.val (ys.take c) + Nt.pw h * Nt.val (ys.drop c) := by
      have h2 := HC.out
      by_cases e : ys.length ≤ h
      · rw [show c = ys.length by omega, List.take_length, List.drop_length]; simp [Nt.val_nil]
      · rw [← show c = h by omega]; exact Nt.val_split hcy
    rw [hys, show 2 * h = h + h by omega, Nt.pw_add]
    exact Nt.kara _ _ _ _ _
  have hfit : Nt.val os + Nt.val md * Nt.pw h < Nt.pw os.length := by
    rw [hsum, hls]; exact Nt.prod_lt hxo hyo
  have HSum := hide hsum
  have Hls := hide hls
  have Hfit := hide hfit
  clear hsum hls hfit hvs hlv hhv hmv
  go_wp2_with (refine wpList_copy_row rfl (.tmp 61) (.tmp 62) rfl (some ⟨w5.heap.size, 0, none⟩) lao (xs.length + ys.length) (xs.length + ys.length) lo.length lo.length rfl rfl w5.heap.size 0 (List.replicate (xs.length + ys.length) 0) lo hr6 (fun _ => rfl) (hlcell.below hb6) rfl (by omega) (by rw [List.length_replicate]; omega) w5 hb6 l1 Hl1.out ?_)
  intro w7 hr7 hb7
  go_wp2_with (refine wpList_copy_row rfl (.tmp 67) (.tmp 68) rfl (some ⟨w5.heap.size, 2 * h, none⟩) hao (xs.length + ys.length - 2 * h) (xs.length + ys.length - 2 * h) hi.length hi.length rfl rfl w5.heap.size (2 * h) l1 hi hr7 (fun _ => rfl) (hhcell.below hb7) rfl (by omega) (by rw [HL1.out]; omega) w5 hb7 os Hos0.out ?_)
  intro w8 hr8 hb8
  go_wp2_with fail
  refine (into_any (off := h) (L := xs.length + ys.length - h) (bs := md) hr8 hos (by rw [Hls.out]; omega) (by rw [Hls.out]; omega) (fun _ => rfl) hmcl hmcm (hmcell.below hb8) hmc.1 (away_below hmcell (Nat.le_refl _)) Hfit.out).mono ?_
  rintro e w9 ⟨zs, rfl, hzl, hzo, hzv, hrow, honly⟩
  have hfin := hzv.trans HSum.out
  have hzn : zs.length = xs.length + ys.length := by rw [hzl, Hls.out]
  have hb9 : Below w.heap.size w w9 := below_trans hb05 (hb8.trans (honly.below (Nat.le_refl _) hb8.size))
  have HF := hide hfin
  have HZ := hide hzn
  clear hzl hzv hfin hzn honly
  go_wp2
  go_ret
  exact ⟨w5.heap.size, zs, by rw [HZ.out]; rfl, hb05.size, hrow, hzo, HZ.out, HF.out, hb9⟩

end Go.Proofs.YtejenbkhhcjeaaaGreatDoor

namespace Go.Proofs.YtejenbkhhcjeaaaGreatDoor
open Go.RowKit

theorem prod_bd {x y : Int} (hx : 0 ≤ x ∧ x < 4294967296) (hy : 0 ≤ y ∧ y < 4294967296) : 0 ≤ y * x ∧ y * x ≤ 18446744065119617025 := by
  refine ⟨Int.mul_nonneg hy.1 hx.1, ?_⟩
  have h1 : y * x ≤ 4294967295 * x := Int.mul_le_mul_of_nonneg_right (by omega) hx.1
  omega

/-- one round -/
theorem times_step {ys zs os : List Int} {off k : Nat} {c x : Int} (hk : off + k < zs.length) (hz : Nt.lb zs (off + k) = Nt.lb os (off + k))
    (h : Nt.vt zs (off + k) + c * Nt.pw (off + k) = Nt.vt os (off + k) + x * Nt.vt ys k * Nt.pw off) :
    Nt.vt (zs.set (off + k) ((Nt.lb ys k * x + Nt.lb zs (off + k) + c) % 4294967296)) (off + (k + 1)) + (Nt.lb ys k * x + Nt.lb zs (off + k) + c) / 4294967296 * Nt.pw (off + (k + 1)) = Nt.vt os (off + (k + 1)) + x * Nt.vt ys (k + 1) * Nt.pw off := by
  rw [← Nat.add_assoc, Nt.vt_succ, Nt.vt_set (Nat.le_refl _), Nt.lb_set_eq hk, Nt.vt_succ, Nt.vt_succ, Nt.pw_succ]
  have e : (Nt.lb ys k * x + Nt.lb zs (off + k) + c) % 4294967296 + 4294967296 * ((Nt.lb ys k * x + Nt.lb zs (off + k) + c) / 4294967296) = Nt.lb ys k * x + Nt.lb zs (off + k) + c := Int.emod_add_mul_ediv _ _
  generalize (Nt.lb ys k * x + Nt.lb zs (off + k) + c) % 4294967296 = r at *
  generalize (Nt.lb ys k * x + Nt.lb zs (off + k) + c) / 4294967296 = q at *
  have e2 : (r + 4294967296 * q) * Nt.pw (off + k) = (Nt.lb ys k * x + Nt.lb zs (off + k) + c) * Nt.pw (off + k) := by rw [e]
  rw [Int.add_mul, Int.add_mul, Int.add_mul, Int.mul_assoc 4294967296] at e2
  rw [Int.mul_left_comm q, Int.mul_add, Int.add_mul (x * Nt.vt ys k)]
  have e3 : x * (Nt.lb ys k * Nt.pw k) * Nt.pw off = Nt.lb ys k * x * Nt.pw (off + k) := by
    rw [Nt.pw_add, ← Int.mul_assoc, Int.mul_comm x, Int.mul_assoc, Int.mul_assoc, Int.mul_assoc, Int.mul_comm (Nt.pw k)]
  rw [e3, ← hz]
  generalize x * Nt.vt ys k * Nt.pw off = a0 at *
  generalize r * Nt.pw (off + k) = a1 at *
  generalize Nt.lb ys k * x * Nt.pw (off + k) = a2 at *
  generalize Nt.lb zs (off + k) * Nt.pw (off + k) = a3 at *
  generalize c * Nt.pw (off + k) = a4 at *
  generalize q * Nt.pw (off + k) = a5 at *
  omega

set_option maxHeartbeats 1000000 in
theorem times_any {w0 w : World} {ro bo : Option Addr} {rc bc g off : Nat} {ys os : List Int} {x : Int} (hb : Below w0.heap.size w0 w) (hcy : Cells .u32 w0 bo ys) (hyo : Nt.Ok ys) (hym : ys.length ≤ 1099511627776) (hg : w0.heap.size ≤ g)
    (hx : 0 ≤ x ∧ x < 4294967296) (hr : Row .u32 41 w g os) (hoo : Nt.Ok os) (hfit : off + ys.length ≤ os.length) (hro : 0 < ys.length → ro = some ⟨g, off, none⟩) :
    Calls Tryz.prog 174 #[.slice ro ys.length rc, .slice bo ys.length bc, .int .u32 x] w fun e w' => ∃ (c : Int) (zs : List Int), e = .returned (.int .u32 c) ∧ 0 ≤ c ∧ c < 4294967296 ∧ zs.length = os.length ∧ Nt.Ok zs ∧
      (∀ j, j < off ∨ off + ys.length ≤ j → Nt.lb zs j = Nt.lb os j) ∧ Nt.vt zs (off + ys.length) + c * Nt.pw (off + ys.length) = Nt.vt os (off + ys.length) + x * Nt.val ys * Nt.pw off ∧ Row .u32 41 w' g zs ∧ Below w0.heap.size w0 w' := by
  obtain ⟨hx0, hx1⟩ := hx
  go_enter Tryz.func174, Tryz.ntmps174
  go_wp2
  go_loopw [7, 12] (fun c i wr => ∃ (k : Nat) (q : Int) (zs : List Int), k ≤ ys.length ∧ i = .int .i64 k ∧ c = .int .u64 q ∧ 0 ≤ q ∧ q < 4294967296 ∧ zs.length = os.length ∧ Nt.Ok zs ∧ (∀ j, j < off ∨ off + k ≤ j → Nt.lb zs j = Nt.lb os j) ∧
      Row .u32 41 wr g zs ∧ Below w0.heap.size w0 wr ∧ Nt.vt zs (off + k) + q * Nt.pw (off + k) = Nt.vt os (off + k) + x * Nt.vt ys k * Nt.pw off) (fun _ i _ => ys.length - (intOf i).toNat)
  case atStart => exact ⟨0, 0, os, by omega, rfl, rfl, by omega, by omega, rfl, hoo, fun _ _ => rfl, hr, hb, by simp [Nt.vt]⟩
  case round =>
    obtain ⟨k, q, zs, hk, rfl, rfl, hq0, hq1, hzl, hzo, hsame, hrow, hbr, heq⟩ := hrel
    have Heq : Hid _ := heq
    have Hzl : Hid (zs.length = os.length) := hzl
    have Hs : Hid (∀ j, j < off ∨ off + k ≤ j → Nt.lb zs j = Nt.lb os j) := hsame
    clear heq hzl hsame hr hb
    by_cases hkl : k < ys.length
    · have hR := hro (by omega)
      subst hR
      obtain ⟨b1, o1, rfl, _, hc1⟩ := (hcy.below hbr) (by omega)
      have g1 := hc1 k hkl
      have g2 := hrow.cell (i := off + k) (by have := Hzl.out; omega)
      have hfz := hrow.frozen (off + k)
      have byk := hyo k
      obtain ⟨by0, by1⟩ := byk
      have bzk := hzo (off + k)
      obtain ⟨bz0, bz1⟩ := bzk
      obtain ⟨bp0, bp1⟩ := prod_bd ⟨hx0, hx1⟩ ⟨by0, by1⟩
      clear hc1 hcy
      go_wp2
      go_region
      all_goals go_wp2
      all_goals go_roundw
      all_goals first
        | exact ⟨k + 1, (Nt.lb ys k * x + Nt.lb zs (off + k) + q) / 4294967296, zs.set (off + k) ((Nt.lb ys k * x + Nt.lb zs (off + k) + q) % 4294967296), by omega, by go_num, rfl, by omega, by omega, by have := Hzl.out; simp [this], Nt.ok_set hzo (by omega), fun j hj => by
            rw [Nt.lb_set_ne (by omega)]; exact Hs.out j (by omega), hrow.set _ _, (hbr.setCell (p := ⟨g, off + k, none⟩) hg _).drew, times_step (by have := Hzl.out; omega) (Hs.out _ (by omega)) Heq.out⟩
        | (simp [intOf]; omega)
    · have hke : k = ys.length := by omega
      subst hke
      go_wp2
      go_ret
      exact ⟨q, zs, by simp, hq0, hq1, Hzl.out, hzo, Hs.out, Heq.out, hrow, hbr⟩

/-- one row of a product -/
theorem mul_step {xs ys zs os : List Int} {k : Nat} {c : Int} (hl : k + ys.length < zs.length) (hz : Nt.vt zs (k + ys.length) + c * Nt.pw (k + ys.length) = Nt.vt os (k + ys.length) + Nt.lb xs k * Nt.val ys * Nt.pw k)
    (ho : Nt.vt os (k + ys.length) = Nt.vt xs k * Nt.val ys) : Nt.vt (zs.set (k + ys.length) c) (k + 1 + ys.length) = Nt.vt xs (k + 1) * Nt.val ys := by
  rw [Nat.add_right_comm, Nt.vt_succ, Nt.vt_set (Nat.le_refl _), Nt.lb_set_eq hl, hz, ho, Nt.vt_succ, Int.add_mul, Int.mul_right_comm]

theorem mul_into {w' wr w3 : World} {g2 t P Q rc : Nat} {zs zs2 : List Int} (hrow : Row .u32 41 wr w'.heap.size zs) (hzo : Nt.Ok zs) (hzl : zs.length = P + Q) (ht : t < Q) (hb3 : Below wr.drew.heap.size wr.drew w3)
    (hg2 : wr.drew.heap.size ≤ g2) (hr2 : Row .u32 41 w3 g2 zs2) (ho2 : Nt.Ok zs2) (hm : zs2.length ≤ 2199023255552 ∧ P + Q ≤ 2199023255552) (hfit : Nt.val zs + Nt.val zs2 * Nt.pw t < Nt.pw (P + Q)) :
    Calls Tryz.prog 175 #[.slice (some ⟨w'.heap.size, t, none⟩) (P + Q - t) rc, .slice (some ⟨g2, 0, none⟩) zs2.length zs2.length] w3 fun e w5 => ∃ zs3 : List Int, e = .returned (.tuple #[]) ∧ zs3.length = P + Q ∧ Nt.Ok zs3 ∧
      Nt.val zs3 = Nt.val zs + Nt.val zs2 * Nt.pw t ∧ Row .u32 41 w5 w'.heap.size zs3 ∧ Below w'.heap.size wr w5 := by
  have hgt := hrow.lt
  have h9 : wr.drew.heap.size = wr.heap.size := rfl
  have hr3 : Row .u32 41 w3 w'.heap.size zs := hrow.keeps (below_trans (Below.refl _ _).drew hb3)
  refine (into_any (w := w3) (g := w'.heap.size) (off := t) (L := P + Q - t) (bs := zs2) (os := zs) hr3 hzo (by rw [hzl]; omega) (by rw [hzl]; exact hm.2) (fun _ => rfl) (Nat.le_refl _) (by unfold maxLen; omega) (fun _ => ⟨g2, 0, rfl, hr2.lt, fun i hi => by rw [Nat.zero_add]; exact hr2.cell hi⟩) ho2 (fun _ => away_some (by omega)) (by rw [hzl]; exact hfit)).mono ?_
  rintro e w4 ⟨zs3, rfl, h1, h2, h3, h4, h5⟩
  refine ⟨zs3, rfl, by rw [h1, hzl], h2, h3, h4, ?_⟩
  have hs := hb3.size
  exact ((Below.refl _ wr).drew.trans (hb3.mono (by omega))).trans (h5.below (Nat.le_refl _) (by omega))

set_option maxHeartbeats 8000000 in
theorem mul_from {N : Nat} (hI : MulOk N) {w : World} {va vb : Value} {n m : Int} {ka kb : Nat} (ha : Arg w va n ka) (hb : Arg w vb m kb) (hka : ka ≤ 549755813888) (hkb : kb ≤ 549755813888) (hN : ka ≤ N ∨ kb ≤ N) :
    Calls Tryz.prog 125 #[va, vb] w fun e w' => ∃ v, e = .returned v ∧ Num w.heap.size w' v (n * m) (ka + kb) ∧ Below w.heap.size w w' := by
  go_enter Tryz.func125, Tryz.ntmps125
  go_wp2_with fail
  refine (trim_arg ha).mono ?_
  rintro e w' ⟨rfl, ao, xs, rfl, hxk, hxm, hxc, hx, rfl⟩
  go_wp2_with fail
  refine (trim_arg hb).mono ?_
  rintro e w' ⟨rfl, bo, ys, rfl, hyk, hym, hyc, hy, rfl⟩
  clear ha hb
  by_cases hlt : ys.length < xs.length
  · skip
    go_wp2_with (at_make; refine wpList_make_row _ rfl _ _ 23 rfl 41 .u32 4 Tryz.underlying23 Tryz.infoU32 _ _ _ _ (ys.length + xs.length) (ys.length + xs.length) rfl rfl (by omega) (by omega) (Nat.le_refl _) (by omega) (by unfold maxLen; omega) ?_)
    intro w1 hr hbel hsz
    by_cases hs : ys.length ≤ 100
    · have hs1 : (ys.length : Int) ≤ 100 := by omega
      have hs2 : decide ((ys.length : Int) ≤ 100) = true := decide_eq_true hs1
      go_wp2
      go_loopw [30] (fun i wr => ∃ (k : Nat) (zs : List Int), k ≤ ys.length ∧ i = .int .i64 k ∧ zs.length = ys.length + xs.length ∧ Nt.Ok zs ∧ (∀ j, k + xs.length ≤ j → Nt.lb zs j = 0) ∧
          Row .u32 41 wr w'.heap.size zs ∧ Below w'.heap.size w' wr ∧ Nt.vt zs (k + xs.length) = Nt.vt ys k * Nt.val xs) (fun i _ => ys.length - (intOf i).toNat)
      case atStart => exact ⟨0, List.replicate (ys.length + xs.length) 0, by omega, rfl, by simp, Nt.ok_replicate _, fun j _ => Nt.lb_replicate _ _, hr, hbel, by
        rw [Nt.vt_cut (k := 0) (by omega) (fun i _ _ => Nt.lb_replicate _ _)]; simp [Nt.vt]⟩
      case round =>
        obtain ⟨k, zs, hk, rfl, hzl, hzo, hz0, hrow, hbr, heq⟩ := hrel
        have Heq : Hid _ := heq
        have Hzl : Hid (zs.length = ys.length + xs.length) := hzl
        have Hz : Hid (∀ j, k + xs.length ≤ j → Nt.lb zs j = 0) := hz0
        clear heq hzl hz0 hr hbel
        by_cases hkl : k < ys.length
        · obtain ⟨b1, o1, rfl, hb1, hc1⟩ := (hyc.below hbr) (by omega)
          have g1 := hc1 k hkl
          have bx := hy.1 k
          clear hc1 hyc
          have hbd : Below w'.heap.size w' wr.drew := hbr.drew
          have hrd : Row .u32 41 wr.drew w'.heap.size zs := hrow
          have hfit : k + xs.length ≤ zs.length := by have := Hzl.out; omega
          have i2 : (k : Int) + (xs.length : Int) < (ys.length : Int) + (xs.length : Int) := by omega
          have jw : IntKind.i64.wrap ((k : Int) + (xs.length : Int)) = (k : Int) + (xs.length : Int) := by rw [IntKind.wrap_i64]; omega
          have j1 : (0 : Int) ≤ (k : Int) + (xs.length : Int) := by omega
          have j3 : ¬ ys.length + xs.length = k := by omega
          have j4 : ((k : Int) + (xs.length : Int)).toNat = k + xs.length := by omega
          go_wp2
          go_region_with (go_at_call 174; refine (times_any hbd hxc hx.1 (by omega) (Nat.le_refl _) bx hrd hzo hfit (fun _ => rfl)).mono ?_; rintro e w3 ⟨c, zs', rfl, hc0, hc1, hzl', hzo', hsm, hv, hrow', hbr'⟩; have hfz := hrow'.frozen (k + xs.length); have hcl := hrow'.cell (i := k + xs.length) (by rw [hzl']; have := Hzl.out; omega); have HV := hide hv; have HSm := hide hsm; have HZl := hide hzl'; clear hv hsm hzl')
          all_goals go_wp2
          all_goals go_roundw
          all_goals first
            | exact ⟨k + 1, zs'.set (k + xs.length) c, by omega, by go_num, by rw [List.length_set, HZl.out, Hzl.out], Nt.ok_set hzo' ⟨hc0, hc1⟩, fun j hj => by
                rw [Nt.lb_set_ne (by omega), HSm.out j (by omega)]; exact Hz.out j (by omega), hrow'.set _ _, hbr'.setCell (p := ⟨w'.heap.size, k + xs.length, none⟩) (Nat.le_refl _) _, mul_step (by rw [HZl.out, Hzl.out]; omega) HV.out Heq.out⟩
            | (simp [intOf]; omega)
        · have hke : k = ys.length := by omega
          subst hke
          have hz2 : zs.length = ys.length + xs.length := Hzl.out
          have hfin : Nt.val zs = Nt.val ys * Nt.val xs := by
            unfold Nt.val
            rw [hz2]
            exact Heq.out
          have ht := trim_row (B := w'.heap.size) (cap := zs.length) hrow (Nat.le_refl _) (Nat.le_refl _) (by rw [hz2]; unfold maxLen; omega) hzo
          rw [hz2, hfin] at ht
          clear hz2 hfin Heq
          go_wp2_with fail
          refine ht.mono ?_
          rintro e w3 ⟨rfl, v, rfl, hnum⟩
          go_wp2
          go_ret
          exact ⟨_, rfl, by rw [Int.mul_comm (Nt.val xs)]; exact hnum.mono (by omega), hbr⟩
    · obtain ⟨pb, po, rfl⟩ : ∃ b o, bo = some ⟨b, o, none⟩ := by
        obtain ⟨b, o, h, _⟩ := hyc (by omega)
        exact ⟨b, o, h⟩
      obtain ⟨qb, qo, rfl⟩ : ∃ b o, ao = some ⟨b, o, none⟩ := by
        obtain ⟨b, o, h, _⟩ := hxc (by omega)
        exact ⟨b, o, h⟩
      have hs1 : ¬ (ys.length : Int) ≤ 100 := by omega
      have hs2 : decide ((ys.length : Int) ≤ 100) = false := decide_eq_false hs1
      go_wp2
      go_loopw [7] (fun i wr => ∃ (t : Nat) (zs : List Int), t < xs.length + ys.length ∧ i = .int .i64 t ∧ zs.length = ys.length + xs.length ∧ Nt.Ok zs ∧
          Row .u32 41 wr w'.heap.size zs ∧ Below w'.heap.size w' wr ∧ Nt.val zs = Nt.val ys * Nt.vt xs t) (fun i _ => xs.length - (intOf i).toNat)
      case atStart => exact ⟨0, List.replicate (ys.length + xs.length) 0, by omega, rfl, by simp, Nt.ok_replicate _, hr, hbel, by rw [Nt.val_replicate]; simp [Nt.vt]⟩
      case round =>
        obtain ⟨t, zs, ht, rfl, hzl, hzo, hrow, hbr, heq⟩ := hrel
        clear hr hbel
        by_cases htl : t < xs.length
        · obtain ⟨e1, he1⟩ : ∃ e1, e1 = min (t + ys.length) xs.length := ⟨_, rfl⟩
          have hpl : ((xs.drop t).take (e1 - t)).length = e1 - t := by rw [List.length_take, List.length_drop]; omega
          have hqc : Cells .u32 wr.drew (some ⟨qb, qo + t, none⟩) ((xs.drop t).take (e1 - t)) := (cells_drop (hxc.below hbr.drew) t).take (by rw [List.length_drop]; omega)
          have hpiece : Nt.val zs + Nt.val ys * Nt.val ((xs.drop t).take (e1 - t)) * Nt.pw t = Nt.val ys * Nt.vt xs (t + ys.length) := by
            have h1 := Nt.vt_piece (xs := xs) (at' := t) (n := e1 - t) (by omega)
            have h2 : Nt.vt xs (t + ys.length) = Nt.vt xs (t + (e1 - t)) := by
              by_cases h : t + ys.length ≤ xs.length
              · rw [show t + (e1 - t) = t + ys.length by omega]
              · rw [Nt.vt_out (by omega), Nt.vt_out (by omega)]
            rw [h2, h1, heq]
            grind
          have hle : Nt.val ys * Nt.vt xs (t + ys.length) < Nt.pw (ys.length + xs.length) := by
            have h1 : Nt.vt xs (t + ys.length) ≤ Nt.val xs := by
              by_cases h : t + ys.length ≤ xs.length
              · have h2 := Nt.vt_drop xs (t + ys.length) (xs.length - (t + ys.length))
                rw [show t + ys.length + (xs.length - (t + ys.length)) = xs.length by omega] at h2
                have h3 : 0 ≤ Nt.pw (t + ys.length) * Nt.vt (xs.drop (t + ys.length)) (xs.length - (t + ys.length)) := Int.mul_nonneg (by have := Nt.pw_pos (t + ys.length); omega) (Nt.vt_bounds (Nt.ok_drop hx.1 _) _).1
                unfold Nt.val
                omega
              · rw [Nt.vt_out (by omega)]; exact Int.le_refl _
            have h2 : Nt.val ys * Nt.vt xs (t + ys.length) ≤ Nt.val ys * Nt.val xs := Int.mul_le_mul_of_nonneg_left h1 (Nt.val_nonneg hy.1)
            have h3 := Nt.prod_lt hy.1 hx.1
            omega
          have hgt := hrow.lt
          have HP := hide hpiece
          have HL := hide hle
          have HPL := hide hpl
          have HZL := hide hzl
          have He := hide he1
          have jw : IntKind.i64.wrap ((t : Int) + (ys.length : Int)) = (t : Int) + (ys.length : Int) := by rw [IntKind.wrap_i64]; omega
          have k0 : (if (xs.length : Int) < (t : Int) + (ys.length : Int) then (xs.length : Int) else (t : Int) + (ys.length : Int)) = (e1 : Int) := by split <;> omega
          have k1 : t ≤ e1 := by omega
          have k2 : e1 ≤ xs.length := by omega
          have k3 : (t : Int) ≤ (e1 : Int) := by omega
          have k4 : (e1 : Int) ≤ (xs.length : Int) := by omega
          have k5 : (0 : Int) ≤ (t : Int) := by omega
          have k6 : (t : Int) ≤ (ys.length : Int) + (xs.length : Int) := by omega
          have k7 : ¬ ys.length + xs.length = t := by omega
          have k8 : ¬ xs.length = t := by omega
          have k9 : t ≤ ys.length + xs.length := by omega
          have k10 : (0 : Int) ≤ (e1 : Int) := by omega
          have hpd := hyc.below hbr.drew
          have hHalf := halves_any hI (w := wr.drew) (cb := xs.length - t) (ys := (xs.drop t).take (e1 - t)) (Nat.le_refl _) hym (by rw [hpl]; omega) (by omega) hpd hqc hy.1 (Nt.ok_take (Nt.ok_drop hx.1 _) _) (by rw [hpl]; omega) (by omega) (by rw [hpl]; omega) (by omega) (by omega)
          rw [hpl] at hHalf
          clear hpiece hle hpl hzl heq he1
          go_wp2
          go_region_held3 (fun _ => True) (trivial) (first
            | (go_at_call 176
               with_reducible refine hHalf.mono ?_
               rintro e w3 ⟨g2, zs2, rfl, hg2, hr2, ho2, hl2, hv2, hb3⟩
               have hInto := mul_into (rc := ys.length + xs.length - t) hrow hzo HZL.out htl hb3 hg2 hr2 ho2 ⟨by rw [hl2]; omega, by omega⟩ (by rw [hv2, HP.out]; exact HL.out)
               clear hl2)
            | (go_at_call 175
               with_reducible refine hInto.mono ?_
               rintro e w4 ⟨zs3, rfl, hl3, ho3, hv3, hr3, hbl3⟩))
          all_goals go_wp2
          all_goals go_roundw
          all_goals first
            | exact ⟨t + ys.length, zs3, by omega, by go_num, hl3, ho3, hr3, hbr.trans hbl3, by rw [hv3, hv2, HP.out]⟩
            | (simp [intOf]; omega)
        · have hfin : Nt.val zs = Nt.val ys * Nt.val xs := by rw [heq, Nt.vt_out (by omega)]
          have ht := trim_row (B := w'.heap.size) (cap := zs.length) hrow (Nat.le_refl _) (Nat.le_refl _) (by rw [hzl]; unfold maxLen; omega) hzo
          rw [hzl, hfin] at ht
          clear hzl hfin heq
          go_wp2_with fail
          refine ht.mono ?_
          rintro e w3 ⟨rfl, v, rfl, hnum⟩
          go_wp2
          go_ret
          exact ⟨_, rfl, by rw [Int.mul_comm (Nt.val xs)]; exact hnum.mono (by omega), hbr⟩
  · skip
    go_wp2_with (at_make; refine wpList_make_row _ rfl _ _ 23 rfl 41 .u32 4 Tryz.underlying23 Tryz.infoU32 _ _ _ _ (xs.length + ys.length) (xs.length + ys.length) rfl rfl (by omega) (by omega) (Nat.le_refl _) (by omega) (by unfold maxLen; omega) ?_)
    intro w1 hr hbel hsz
    by_cases hs : xs.length ≤ 100
    · have hs1 : (xs.length : Int) ≤ 100 := by omega
      have hs2 : decide ((xs.length : Int) ≤ 100) = true := decide_eq_true hs1
      go_wp2
      go_loopw [30] (fun i wr => ∃ (k : Nat) (zs : List Int), k ≤ xs.length ∧ i = .int .i64 k ∧ zs.length = xs.length + ys.length ∧ Nt.Ok zs ∧ (∀ j, k + ys.length ≤ j → Nt.lb zs j = 0) ∧
          Row .u32 41 wr w'.heap.size zs ∧ Below w'.heap.size w' wr ∧ Nt.vt zs (k + ys.length) = Nt.vt xs k * Nt.val ys) (fun i _ => xs.length - (intOf i).toNat)
      case atStart => exact ⟨0, List.replicate (xs.length + ys.length) 0, by omega, rfl, by simp, Nt.ok_replicate _, fun j _ => Nt.lb_replicate _ _, hr, hbel, by
        rw [Nt.vt_cut (k := 0) (by omega) (fun i _ _ => Nt.lb_replicate _ _)]; simp [Nt.vt]⟩
      case round =>
        obtain ⟨k, zs, hk, rfl, hzl, hzo, hz0, hrow, hbr, heq⟩ := hrel
        have Heq : Hid _ := heq
        have Hzl : Hid (zs.length = xs.length + ys.length) := hzl
        have Hz : Hid (∀ j, k + ys.length ≤ j → Nt.lb zs j = 0) := hz0
        clear heq hzl hz0 hr hbel
        by_cases hkl : k < xs.length
        · obtain ⟨b1, o1, rfl, hb1, hc1⟩ := (hxc.below hbr) (by omega)
          have g1 := hc1 k hkl
          have bx := hx.1 k
          clear hc1 hxc
          have hbd : Below w'.heap.size w' wr.drew := hbr.drew
          have hrd : Row .u32 41 wr.drew w'.heap.size zs := hrow
          have hfit : k + ys.length ≤ zs.length := by have := Hzl.out; omega
          have i2 : (k : Int) + (ys.length : Int) < (xs.length : Int) + (ys.length : Int) := by omega
          have jw : IntKind.i64.wrap ((k : Int) + (ys.length : Int)) = (k : Int) + (ys.length : Int) := by rw [IntKind.wrap_i64]; omega
          have j1 : (0 : Int) ≤ (k : Int) + (ys.length : Int) := by omega
          have j3 : ¬ xs.length + ys.length = k := by omega
          have j4 : ((k : Int) + (ys.length : Int)).toNat = k + ys.length := by omega
          go_wp2
          go_region_with (go_at_call 174; refine (times_any hbd hyc hy.1 (by omega) (Nat.le_refl _) bx hrd hzo hfit (fun _ => rfl)).mono ?_; rintro e w3 ⟨c, zs', rfl, hc0, hc1, hzl', hzo', hsm, hv, hrow', hbr'⟩; have hfz := hrow'.frozen (k + ys.length); have hcl := hrow'.cell (i := k + ys.length) (by rw [hzl']; have := Hzl.out; omega); have HV := hide hv; have HSm := hide hsm; have HZl := hide hzl'; clear hv hsm hzl')
          all_goals go_wp2
          all_goals go_roundw
          all_goals first
            | exact ⟨k + 1, zs'.set (k + ys.length) c, by omega, by go_num, by rw [List.length_set, HZl.out, Hzl.out], Nt.ok_set hzo' ⟨hc0, hc1⟩, fun j hj => by
                rw [Nt.lb_set_ne (by omega), HSm.out j (by omega)]; exact Hz.out j (by omega), hrow'.set _ _, hbr'.setCell (p := ⟨w'.heap.size, k + ys.length, none⟩) (Nat.le_refl _) _, mul_step (by rw [HZl.out, Hzl.out]; omega) HV.out Heq.out⟩
            | (simp [intOf]; omega)
        · have hke : k = xs.length := by omega
          subst hke
          have hz2 : zs.length = xs.length + ys.length := Hzl.out
          have hfin : Nt.val zs = Nt.val xs * Nt.val ys := by
            unfold Nt.val
            rw [hz2]
            exact Heq.out
          have ht := trim_row (B := w'.heap.size) (cap := zs.length) hrow (Nat.le_refl _) (Nat.le_refl _) (by rw [hz2]; unfold maxLen; omega) hzo
          rw [hz2, hfin] at ht
          clear hz2 hfin Heq
          go_wp2_with fail
          refine ht.mono ?_
          rintro e w3 ⟨rfl, v, rfl, hnum⟩
          go_wp2
          go_ret
          exact ⟨_, rfl, hnum.mono (by omega), hbr⟩
    · obtain ⟨pb, po, rfl⟩ : ∃ b o, ao = some ⟨b, o, none⟩ := by
        obtain ⟨b, o, h, _⟩ := hxc (by omega)
        exact ⟨b, o, h⟩
      obtain ⟨qb, qo, rfl⟩ : ∃ b o, bo = some ⟨b, o, none⟩ := by
        obtain ⟨b, o, h, _⟩ := hyc (by omega)
        exact ⟨b, o, h⟩
      have hs1 : ¬ (xs.length : Int) ≤ 100 := by omega
      have hs2 : decide ((xs.length : Int) ≤ 100) = false := decide_eq_false hs1
      go_wp2
      go_loopw [7] (fun i wr => ∃ (t : Nat) (zs : List Int), t < ys.length + xs.length ∧ i = .int .i64 t ∧ zs.length = xs.length + ys.length ∧ Nt.Ok zs ∧
          Row .u32 41 wr w'.heap.size zs ∧ Below w'.heap.size w' wr ∧ Nt.val zs = Nt.val xs * Nt.vt ys t) (fun i _ => ys.length - (intOf i).toNat)
      case atStart => exact ⟨0, List.replicate (xs.length + ys.length) 0, by omega, rfl, by simp, Nt.ok_replicate _, hr, hbel, by rw [Nt.val_replicate]; simp [Nt.vt]⟩
      case round =>
        obtain ⟨t, zs, ht, rfl, hzl, hzo, hrow, hbr, heq⟩ := hrel
        clear hr hbel
        by_cases htl : t < ys.length
        · obtain ⟨e1, he1⟩ : ∃ e1, e1 = min (t + xs.length) ys.length := ⟨_, rfl⟩
          have hpl : ((ys.drop t).take (e1 - t)).length = e1 - t := by rw [List.length_take, List.length_drop]; omega
          have hqc : Cells .u32 wr.drew (some ⟨qb, qo + t, none⟩) ((ys.drop t).take (e1 - t)) := (cells_drop (hyc.below hbr.drew) t).take (by rw [List.length_drop]; omega)
          have hpiece : Nt.val zs + Nt.val xs * Nt.val ((ys.drop t).take (e1 - t)) * Nt.pw t = Nt.val xs * Nt.vt ys (t + xs.length) := by
            have h1 := Nt.vt_piece (xs := ys) (at' := t) (n := e1 - t) (by omega)
            have h2 : Nt.vt ys (t + xs.length) = Nt.vt ys (t + (e1 - t)) := by
              by_cases h : t + xs.length ≤ ys.length
              · rw [show t + (e1 - t) = t + xs.length by omega]
              · rw [Nt.vt_out (by omega), Nt.vt_out (by omega)]
            rw [h2, h1, heq]
            grind
          have hle : Nt.val xs * Nt.vt ys (t + xs.length) < Nt.pw (xs.length + ys.length) := by
            have h1 : Nt.vt ys (t + xs.length) ≤ Nt.val ys := by
              by_cases h : t + xs.length ≤ ys.length
              · have h2 := Nt.vt_drop ys (t + xs.length) (ys.length - (t + xs.length))
                rw [show t + xs.length + (ys.length - (t + xs.length)) = ys.length by omega] at h2
                have h3 : 0 ≤ Nt.pw (t + xs.length) * Nt.vt (ys.drop (t + xs.length)) (ys.length - (t + xs.length)) := Int.mul_nonneg (by have := Nt.pw_pos (t + xs.length); omega) (Nt.vt_bounds (Nt.ok_drop hy.1 _) _).1
                unfold Nt.val
                omega
              · rw [Nt.vt_out (by omega)]; exact Int.le_refl _
            have h2 : Nt.val xs * Nt.vt ys (t + xs.length) ≤ Nt.val xs * Nt.val ys := Int.mul_le_mul_of_nonneg_left h1 (Nt.val_nonneg hx.1)
            have h3 := Nt.prod_lt hx.1 hy.1
            omega
          have hgt := hrow.lt
          have HP := hide hpiece
          have HL := hide hle
          have HPL := hide hpl
          have HZL := hide hzl
          have He := hide he1
          have jw : IntKind.i64.wrap ((t : Int) + (xs.length : Int)) = (t : Int) + (xs.length : Int) := by rw [IntKind.wrap_i64]; omega
          have k0 : (if (ys.length : Int) < (t : Int) + (xs.length : Int) then (ys.length : Int) else (t : Int) + (xs.length : Int)) = (e1 : Int) := by split <;> omega
          have k1 : t ≤ e1 := by omega
          have k2 : e1 ≤ ys.length := by omega
          have k3 : (t : Int) ≤ (e1 : Int) := by omega
          have k4 : (e1 : Int) ≤ (ys.length : Int) := by omega
          have k5 : (0 : Int) ≤ (t : Int) := by omega
          have k6 : (t : Int) ≤ (xs.length : Int) + (ys.length : Int) := by omega
          have k7 : ¬ xs.length + ys.length = t := by omega
          have k8 : ¬ ys.length = t := by omega
          have k9 : t ≤ xs.length + ys.length := by omega
          have k10 : (0 : Int) ≤ (e1 : Int) := by omega
          have hpd := hxc.below hbr.drew
          have hHalf := halves_any hI (w := wr.drew) (cb := ys.length - t) (ys := (ys.drop t).take (e1 - t)) (Nat.le_refl _) hxm (by rw [hpl]; omega) (by omega) hpd hqc hx.1 (Nt.ok_take (Nt.ok_drop hy.1 _) _) (by rw [hpl]; omega) (by omega) (by rw [hpl]; omega) (by omega) (by omega)
          rw [hpl] at hHalf
          clear hpiece hle hpl hzl heq he1
          go_wp2
          go_region_held3 (fun _ => True) (trivial) (first
            | (go_at_call 176
               with_reducible refine hHalf.mono ?_
               rintro e w3 ⟨g2, zs2, rfl, hg2, hr2, ho2, hl2, hv2, hb3⟩
               have hInto := mul_into (rc := xs.length + ys.length - t) hrow hzo HZL.out htl hb3 hg2 hr2 ho2 ⟨by rw [hl2]; omega, by omega⟩ (by rw [hv2, HP.out]; exact HL.out)
               clear hl2)
            | (go_at_call 175
               with_reducible refine hInto.mono ?_
               rintro e w4 ⟨zs3, rfl, hl3, ho3, hv3, hr3, hbl3⟩))
          all_goals go_wp2
          all_goals go_roundw
          all_goals first
            | exact ⟨t + xs.length, zs3, by omega, by go_num, hl3, ho3, hr3, hbr.trans hbl3, by rw [hv3, hv2, HP.out]⟩
            | (simp [intOf]; omega)
        · have hfin : Nt.val zs = Nt.val xs * Nt.val ys := by rw [heq, Nt.vt_out (by omega)]
          have ht := trim_row (B := w'.heap.size) (cap := zs.length) hrow (Nat.le_refl _) (Nat.le_refl _) (by rw [hzl]; unfold maxLen; omega) hzo
          rw [hzl, hfin] at ht
          clear hzl hfin heq
          go_wp2_with fail
          refine ht.mono ?_
          rintro e w3 ⟨rfl, v, rfl, hnum⟩
          go_wp2
          go_ret
          exact ⟨_, rfl, hnum.mono (by omega), hbr⟩

theorem mul_ok (N : Nat) : MulOk N := by
  induction N with
  | zero => intro _ _ _ _ _ _ _ _ _ _ _ h; omega
  | succ N ih => intro w va vb n m ka kb ha hb hka hkb h; exact mul_from ih ha hb hka hkb (by omega)

theorem mul_any {w : World} {va vb : Value} {n m : Int} {ka kb : Nat} (ha : Arg w va n ka) (hb : Arg w vb m kb) (hka : ka ≤ 549755813888) (hkb : kb ≤ 549755813888) :
    Calls Tryz.prog 125 #[va, vb] w fun e w' => ∃ v, e = .returned v ∧ Num w.heap.size w' v (n * m) (ka + kb) ∧ Below w.heap.size w w' :=
  mul_ok (ka + 1) w va vb n m ka kb ha hb hka hkb (by omega)

end Go.Proofs.YtejenbkhhcjeaaaGreatDoor

namespace Go.Proofs.YtejenbkhhcjeaaaGreatDoor
open Go.RowKit

theorem Num.tight {B : Nat} {w : World} {v : Value} {n : Int} {k k' : Nat} (h : Num B w v n k) (hn : n < Nt.pw k') : Num B w v n k' := by
  obtain ⟨zs, h1, h2, h3, h4⟩ := h
  refine ⟨zs, h1, h2, h3, ?_⟩
  rcases Nat.lt_or_ge k' zs.length with e | e
  · exfalso
    have h5 := Nt.canon_low h2 (by intro e'; subst e'; simp at e)
    have h6 := Nt.pw_mono (m := k') (n := zs.length - 1) (by omega)
    omega
  · exact e
theorem Arg.lt {w : World} {v : Value} {n : Int} {k : Nat} (h : Arg w v n k) : n < Nt.pw k := by
  obtain ⟨zs, _, h2, rfl, h4⟩ := h
  have h5 := Nt.val_lt h2
  have h6 := Nt.pw_mono h4
  omega

set_option maxHeartbeats 1000000 in
theorem cut_arg {w : World} {v : Value} {n : Int} {m : Nat} (ha : Arg w v n m) (hm : m ≤ 1099511627776) :
    Calls Tryz.prog 159 #[v] w fun e w' => w' = w ∧ ∃ ao zs cap, e = .returned (.slice ao zs.length cap) ∧ zs.length ≤ cap ∧ cap ≤ maxLen ∧ zs.length ≤ m ∧ Cells .u32 w ao zs ∧ Nt.Canon zs ∧ Nt.val zs = n := by
  have hlen := len_any ha hm
  obtain ⟨xs, ⟨ao, cap, rfl, h1, h2, h3⟩, h4, h5, h6⟩ := ha
  obtain ⟨j, hj, hc, hv⟩ := canon_exists xs h4
  have hl : (xs.take j).length = j := by rw [List.length_take, Nat.min_eq_left hj]
  rw [h5] at hv
  go_enter Tryz.func159, Tryz.ntmps159
  go_wp2_with fail
  refine hlen.mono ?_
  clear hlen
  rintro e w' ⟨k, rfl, hk, hk2, rfl⟩
  have hkj : (k + 31) / 32 = j := by rw [limbs_of_len hc (by rw [hv]; exact hk), hl]
  have q1 : ((k : Int) + 32 - 1) / 32 = (j : Int) := by omega
  have q2 : j ≤ cap := by omega
  have q3 : (j : Int) ≤ (cap : Int) := by omega
  have Hk := hide hk
  have Hv := hide hv
  have Hl := hide hl
  clear hk hv hl h5 hkj
  go_wp2
  go_ret
  exact ⟨rfl, ao, xs.take j, cap, by rw [Hl.out]; rfl, by rw [Hl.out]; omega, h2, by rw [Hl.out]; omega, h3.take hj, hc, Hv.out⟩

set_option maxHeartbeats 1000000 in
theorem leadz_any (x : Int) (w : World) (hx0 : 0 ≤ x) (hx1 : x < 4294967296) :
    Calls Tryz.prog 161 #[.int .u32 x] w fun e w' => ∃ k : Nat, e = .returned (.int .i64 ((32 - k : Nat) : Int)) ∧ IsLen x k ∧ k ≤ 32 ∧ w' = w := by
  go_enter Tryz.func161, Tryz.ntmps161
  go_wp2_with fail
  refine (len32_any x w hx0 hx1).mono ?_
  rintro e w' ⟨k, rfl, hk, hk2, rfl⟩
  have q1 : (32 : Int) - (k : Int) = ((32 - k : Nat) : Int) := by omega
  have Hk := hide hk
  clear hk
  go_wp2
  go_ret
  exact ⟨k, by first | rfl | (rw [q1]) | simp [q1], Hk.out, hk2, rfl⟩

theorem row_cells_take {w : World} {g n : Nat} {zs : List Int} (h : Row .u32 41 w g zs) (hn : n ≤ zs.length) : Cells .u32 w (some ⟨g, 0, none⟩) (zs.take n) := by
  have h2 := row_cells (off := 0) (n := n) h (by omega)
  rw [List.drop_zero] at h2
  exact h2

/-- less than a limb's bits -/
theorem shr_some {w : World} {va : Value} {A : Int} {ka s : Nat} (ha : Arg w va A ka) (hka : ka ≤ 1099511627776) (hs : s < 32) :
    Calls Tryz.prog 164 #[va, .int .i64 s] w fun e w' => ∃ v b, e = .returned (.tuple #[v, .bool b, .bool true]) ∧ Num w.heap.size w' v (A / p2 s) ka ∧ Below w.heap.size w w' := by
  have h0 := ha.nonneg
  by_cases h1 : 1 ≤ A
  · refine (shr_near (N := s) (W := 0) (s := s) ha hka (by omega) hs (by rw [Nt.pw_zero]; exact h1)).mono ?_
    rintro e w' ⟨v, rfl, hn, hb⟩
    exact ⟨v, _, rfl, hn, hb⟩
  · have e0 : A = 0 := by omega
    subst e0
    have e1 : ((s : Int) / 32).toNat = 0 := by omega
    refine (shr_far (n := (s : Int)) ha (by omega) (by omega) (by rw [e1, Nt.pw_zero]; omega)).mono ?_
    rintro e w' ⟨rfl, rfl⟩
    refine ⟨_, _, rfl, ?_, Below.refl _ _⟩
    rw [Int.zero_ediv]
    exact ⟨[], ⟨none, rfl, by unfold maxLen; simp, fun h => absurd h (by simp)⟩, Nt.canon_nil, rfl, by simp⟩

set_option maxHeartbeats 1000000 in
theorem div_zero {w : World} {va vb : Value} {n : Int} {ka kb : Nat} (ha : Arg w va n ka) (hb : Arg w vb 0 kb) (hka : ka ≤ 1099511627776) (hkb : kb ≤ 1099511627776) :
    Calls Tryz.prog 115 #[va, vb] w fun e w' => e = .returned (.tuple #[.slice none 0 0, .slice none 0 0, .bool false]) ∧ w' = w := by
  go_enter Tryz.func115, Tryz.ntmps115
  go_wp2_with fail
  refine (cut_arg ha hka).mono ?_
  rintro e w' ⟨rfl, ao, xs, ca, rfl, hxl, hxm, hxk, hxc, hx, rfl⟩
  go_wp2_with fail
  refine (cut_arg hb hkb).mono ?_
  rintro e w' ⟨rfl, bo, ys, cb, rfl, hyl, hym, hyk, hyc, hy, hv⟩
  have hye := (Nt.canon_zero hy).1 hv
  subst hye
  clear ha hb hv
  go_wp2
  go_ret3
  exact ⟨rfl, rfl⟩

set_option maxRecDepth 20000 in
set_option maxHeartbeats 4000000 in
theorem div_any {w : World} {va vb : Value} {n m : Int} {ka kb : Nat} (ha : Arg w va n ka) (hb : Arg w vb m kb) (hka : ka ≤ 549755813888) (hkb : kb ≤ 549755813888) (hm0 : 0 < m) :
    Calls Tryz.prog 115 #[va, vb] w fun e w' => ∃ q r, e = .returned (.tuple #[q, r, .bool true]) ∧ Num w.heap.size w' q (n / m) ka ∧ Num w.heap.size w' r (n % m) kb ∧ Below w.heap.size w w' := by
  have hn0 := ha.nonneg
  have hnlt := ha.lt
  have hmlt := hb.lt
  have hqlt : n / m < Nt.pw ka := Int.lt_of_le_of_lt (Int.ediv_le_self _ hn0) hnlt
  have hrlt : n % m < Nt.pw kb := Int.lt_trans (Int.emod_lt_of_pos _ hm0) hmlt
  have Hq := hide hqlt
  have Hr := hide hrlt
  clear hqlt hrlt hnlt hmlt
  go_enter Tryz.func115, Tryz.ntmps115
  go_wp2_with fail
  refine (cut_arg ha (by omega)).mono ?_
  rintro e w' ⟨rfl, ao, xs, ca, rfl, hxl, hxm, hxk, hxc, hx, hxv⟩
  go_wp2_with fail
  refine (cut_arg hb (by omega)).mono ?_
  rintro e w' ⟨rfl, bo, ys, cb, rfl, hyl, hym, hyk, hyc, hy, hyv⟩
  have hyp : 0 < ys.length := by
    rcases Nat.eq_zero_or_pos ys.length with h0 | h0
    · rw [List.eq_nil_of_length_eq_zero h0, Nt.val_nil] at hyv; omega
    · exact h0
  have hy0 : ((ys.length : Int) == 0) = false := by simp; intro e; subst e; simp at hyp
  have aa : Arg w' (.slice ao xs.length ca) n ka := ⟨xs, ⟨ao, ca, rfl, hxl, hxm, hxc⟩, hx.1, hxv, hxk⟩
  have ab : Arg w' (.slice bo ys.length cb) m kb := ⟨ys, ⟨bo, cb, rfl, hyl, hym, hyc⟩, hy.1, hyv, hyk⟩
  have HXv := hide hxv
  have HYv := hide hyv
  clear ha hb hxv hyv
  go_wp2_with fail
  refine (cmp_any aa ab (by omega) (by omega)).mono ?_
  rintro e w1 ⟨rfl, hb1⟩
  by_cases hlt : n < m
  · have hs : sgn n m < 0 := by unfold sgn; rw [if_pos hlt]; omega
    go_wp2_with fail
    refine (norm_any (aa.below hb1) (by omega)).mono ?_
    rintro e w2 ⟨v, rfl, hn, hb2⟩
    have hb12 := below_trans hb1 hb2
    have e1 : n / m = 0 := Int.ediv_eq_zero_of_lt hn0 hlt
    have e2 : n % m = n := Int.emod_eq_of_lt hn0 hlt
    have hnum : Num w'.heap.size w2 v (n % m) kb := by rw [e2]; exact (hn.low hb1.size).tight (by have h := Hr.out; rw [e2] at h; exact h)
    have hnil : Num w'.heap.size w2 (.slice none 0 0) (n / m) ka := by
      rw [e1]
      exact ⟨[], ⟨none, rfl, by unfold maxLen; simp, fun h => absurd h (by simp)⟩, Nt.canon_nil, rfl, by simp⟩
    have HN := hide hnum
    have HZ := hide hnil
    clear hn hnum hnil e1 e2
    go_wp2
    go_ret3
    exact ⟨_, _, rfl, HZ.out, HN.out, hb12⟩
  · have hs : ¬ sgn n m < 0 := by unfold sgn; rw [if_neg hlt]; split <;> omega
    have hs2 : decide (sgn n m < 0) = false := decide_eq_false hs
    by_cases h1 : ys.length = 1
    · obtain ⟨b1, o1, rfl, _, hc⟩ := (hyc.below hb1) (by omega)
      have g0 := hc 0 (by omega)
      rw [Nat.add_zero] at g0
      have hv1 : Nt.lb ys 0 = m := by
        have h := HYv.out
        unfold Nt.val at h
        rw [h1] at h
        simpa [Nt.vt, Nt.pw] using h
      have bm := hy.1 0
      rw [hv1] at g0 bm
      have hq := (small_yes (aa.below hb1) (by omega) hm0 bm.2)
      have r0 : 0 ≤ n % m := Int.emod_nonneg _ (by omega)
      have r1 : n % m < m := Int.emod_lt_of_pos _ hm0
      clear hc
      go_wp2_with fail
      refine hq.mono ?_
      clear hq
      rintro e w2 ⟨v, rfl, hn, hb2⟩
      go_wp2_with fail
      refine (from_any (n % m) r0 (by omega)).mono ?_
      rintro e w3 ⟨v2, rfl, hn2, hb3⟩
      have hq1 : Num w'.heap.size w3 v (n / m) ka := (hn.below hb3).low hb1.size
      have hr1 : Num w'.heap.size w3 v2 (n % m) kb := (hn2.low (Nat.le_trans hb1.size hb2.size)).tight Hr.out
      have hbb := below_trans (below_trans hb1 hb2) hb3
      have HN := hide hr1
      have HZ := hide hq1
      clear hn hn2 hq1 hr1
      go_wp2
      go_ret3
      exact ⟨_, _, rfl, HZ.out, HN.out, hbb⟩
    · obtain ⟨l, hl⟩ : ∃ l, ys.length = l + 2 := ⟨ys.length - 2, by omega⟩
      have hxy : ys.length ≤ xs.length := by
        rcases Nat.lt_or_ge xs.length ys.length with h | h
        · have := Nt.canon_lt hx.1 hy h; rw [HXv.out, HYv.out] at this; omega
        · exact h
      obtain ⟨nq, hnq⟩ : ∃ nq, xs.length + 1 = nq + ys.length := ⟨xs.length + 1 - ys.length, by omega⟩
      obtain ⟨b1, o1, rfl⟩ : ∃ b o, bo = some ⟨b, o, none⟩ := by
        obtain ⟨b, o, h, _⟩ := hyc hyp
        exact ⟨b, o, h⟩
      obtain ⟨b2, o2, hb2e, _, hc⟩ := (hyc.below hb1) hyp
      injection hb2e with hb2e
      injection hb2e with hb2e ho2e
      subst hb2e ho2e
      have g0 := hc (l + 1) (by omega)
      obtain ⟨l1, hl1⟩ : ∃ l1, l1 = l + 1 := ⟨_, rfl⟩
      rw [← hl1] at g0
      have q1 : (ys.length : Int) - 1 = (l1 : Int) := by omega
      have q2 : (l1 : Int) < (ys.length : Int) := by omega
      have q3 : ((ys.length : Int) == 1) = false := by simp; intro h; exact h1 (by omega)
      have bt := hy.1 l1
      have htop : Nt.lb ys l1 ≠ 0 := by
        have h := hy.2 (by intro e; subst e; simp at hyp)
        rw [show ys.length - 1 = l1 by omega] at h
        exact h
      have Htop := hide htop
      have Hl1 := hide hl1
      have Hl := hide hl
      have Hnq := hide hnq
      clear hc htop hl1 hl hnq
      go_wp2_with fail
      refine (leadz_any (Nt.lb ys l1) w1 bt.1 bt.2).mono ?_
      rintro e w2 ⟨k, rfl, hk, hk32, rfl⟩
      have hk0 : 0 < k := by
        rcases Nat.eq_zero_or_pos k with h | h
        · subst h
          have h2 := hk.1
          have h3 := Htop.out
          simp only [p2] at h2
          omega
        · exact h
      have hfits := raised_fits hy hyp (by rw [show ys.length - 1 = l1 by have := Hl.out; have := Hl1.out; omega]; exact hk) hk32
      obtain ⟨u, hu⟩ : ∃ u, u = 32 - k := ⟨_, rfl⟩
      rw [← hu] at hfits
      have HFits := hide hfits
      have Hk := hide hk
      have hu32 : u < 32 := by omega
      have hP := p2_pos u
      rw [← hu]
      clear hfits hk hu hk32 hk0
      go_wp2_with fail
      refine (raised_any (n := u) (ca := ca) (hxc.below hb1) hx.1 (by omega) hu32).mono ?_
      rintro e w3 ⟨g1, zs1, rfl, hg1, hr1, ho1, hzl1, hzv1, hb3⟩
      go_wp2_with fail
      refine (raised_any (n := u) (ca := cb) ((hyc.below hb1).below hb3) hy.1 (by omega) hu32).mono ?_
      rintro e w4 ⟨g2, vs0, rfl, hg2, hr2, ho2, hvl, hvv, hb4⟩
      have hzl : zs1.length = nq + ys.length := by rw [hzl1]; exact Hnq.out
      have hr1b := hr1.keeps hb4
      have hg12 : g2 ≠ g1 := by have := hr1.lt; omega
      have hvall : Nt.vt vs0 ys.length = Nt.val vs0 := Nt.vt_all ho2 (by omega) (by rw [hvv]; exact HFits.out)
      have hvt : Nt.val (vs0.take ys.length) = m * p2 u := by rw [Nt.val_take (by omega), hvall, hvv, HYv.out]
      have hvtl : (vs0.take ys.length).length = ys.length := by rw [List.length_take]; omega
      have hm1 : Nt.pw l1 ≤ m := by
        have h := Nt.canon_low hy (by intro e; subst e; simp at hyp)
        rw [HYv.out, show ys.length - 1 = l1 by have := Hl.out; have := Hl1.out; omega] at h
        exact h
      have hmP : m * 1 ≤ m * p2 u := Int.mul_le_mul_of_nonneg_left (by omega) (by omega)
      have hfirst : 0 < Nt.lb (vs0.take ys.length) (l + 1) := by
        rcases Int.lt_or_le 0 (Nt.lb (vs0.take ys.length) (l + 1)) with h | h
        · exact h
        · exfalso
          have h2 := (Nt.ok_take ho2 ys.length (l + 1)).1
          have h3 : Nt.lb (vs0.take ys.length) (l + 1) = 0 := by omega
          have h4 : Nt.val (vs0.take ys.length) = Nt.vt (vs0.take ys.length) (l + 1) := by
            have h6 := Nt.vt_succ (vs0.take ys.length) (l + 1)
            rw [h3, Int.zero_mul, Int.add_zero] at h6
            unfold Nt.val
            rw [hvtl, ← h6]
            exact congrArg _ Hl.out
          have h5 := (Nt.vt_bounds (Nt.ok_take ho2 ys.length) (l + 1)).2
          rw [← h4, hvt, ← Hl1.out] at h5
          omega
      have hzless : Nt.val zs1 < Nt.val (vs0.take ys.length) * Nt.pw nq := by
        rw [hzv1, hvt, HXv.out]
        have h1 : n < m * Nt.pw nq := by
          have h2 := aa.lt
          have h3 := Nt.val_lt hx.1
          rw [HXv.out, show xs.length = l1 + nq by have := Hl.out; have := Hl1.out; have := Hnq.out; omega, Nt.pw_add] at h3
          have h4 : Nt.pw l1 * Nt.pw nq ≤ m * Nt.pw nq := Int.mul_le_mul_of_nonneg_right hm1 (by have := Nt.pw_pos nq; omega)
          omega
        have h5 := Int.mul_lt_mul_of_pos_right h1 hP
        grind
      have hlong := long_any (w := w4) (vb := g2) (vo := 0) (bc := ys.length + 1) (g := g1) (nq := nq) (L := ys.length) (l := l) hr1b ho1 hzl hvtl Hl.out (by have := Hnq.out; omega) (row_cells_take hr2 (by omega)) (Nt.ok_take ho2 _) hg12 hfirst hzless
      rw [← Hnq.out] at hlong
      have HZ1 := hide hzv1
      have HVt := hide hvt
      have i5 : ys.length ≤ ys.length + 1 := by omega
      clear hvall hvv hvt hvtl hm1 hmP hfirst hzless hzv1 hzl1 hr1
      go_wp2_with fail
      with_reducible refine hlong.mono ?_
      clear hlong
      rintro e w5 ⟨gq, qs, zs2, rfl, hgq, hrq, hql, hqo, hrz, hzl2, hzo2, hval, hless, hon⟩
      have hR0 := Nt.val_nonneg hzo2
      obtain ⟨e1, e2, e3⟩ := div_parts (n := n) (m := m) (P := p2 u) (Q := Nt.val qs) (R := Nt.val zs2) hP hR0 (by rw [← HVt.out]; exact hless) (by rw [← HXv.out, ← HZ1.out, hval, HVt.out]) hm0
      have hb5 : Below w'.heap.size w' w5 := (below_trans (below_trans hb1 hb3) hb4).trans (hon.below (by have := hb1.size; omega) (by have := hb1.size; have := hb3.size; have := hb4.size; omega))
      have hArz : Arg w5 (.slice (some ⟨g1, 0, none⟩) (xs.length + 1) (xs.length + 1)) (Nt.val zs2) (xs.length + 1) := by
        have hzn : zs2.length = xs.length + 1 := by rw [hzl2, hzl]; exact Hnq.out.symm
        refine ⟨zs2, ⟨some ⟨g1, 0, none⟩, _, by rw [hzn], by rw [hzn]; exact Nat.le_refl _, by unfold maxLen; omega, fun _ => ⟨g1, 0, rfl, hrz.lt, fun i hi => by rw [Nat.zero_add]; exact hrz.cell hi⟩⟩, hzo2, rfl, by rw [hzn]; exact Nat.le_refl _⟩
      have hArq : Arg w5 (.slice (some ⟨gq, 0, none⟩) nq nq) (n / m) nq := by
        refine ⟨qs, ⟨some ⟨gq, 0, none⟩, _, by rw [hql], by rw [hql]; exact Nat.le_refl _, by have := Hnq.out; unfold maxLen; omega, fun _ => ⟨gq, 0, rfl, hrq.lt, fun i hi => by rw [Nat.zero_add]; exact hrq.cell hi⟩⟩, hqo, e1, by rw [hql]; exact Nat.le_refl _⟩
      have E2 := hide e2
      have Hzl := hide hzl
      clear e1 e2 e3 hval hless hql hzl2 hon hzl
      go_wp2_with fail
      with_reducible refine (shr_some hArz (by omega) hu32).mono ?_
      rintro e w6 ⟨v6, b6, rfl, hn6, hb6⟩
      go_wp2_with fail
      with_reducible refine (norm_any (hArq.below hb6) (by have := Hnq.out; omega)).mono ?_
      rintro e w7 ⟨v7, rfl, hn7, hb7⟩
      have hq1 : Num w'.heap.size w7 v7 (n / m) ka := (hn7.low (Nat.le_trans hb5.size hb6.size)).tight Hq.out
      have hr1 : Num w'.heap.size w7 v6 (n % m) kb := by
        have h := (hn6.below hb7).low hb5.size
        rw [E2.out] at h
        exact h.tight Hr.out
      have hbb := below_trans (below_trans hb5 hb6) hb7
      have HN := hide hr1
      have HZ := hide hq1
      clear hn6 hn7 hq1 hr1
      go_wp2
      go_ret3
      exact ⟨_, _, rfl, HZ.out, HN.out, hbb⟩

end Go.Proofs.YtejenbkhhcjeaaaGreatDoor

namespace Go.Proofs.YtejenbkhhcjeaaaGreatDoor
open Go.RowKit

theorem pow_p2 {b : Int} {k : Nat} (hb0 : 0 ≤ b) (hb : b < p2 k) (n : Nat) (hn : 0 < n) : b ^ n < p2 (k * n) := by
  induction n with
  | zero => omega
  | succ n ih =>
    by_cases h : n = 0
    · subst h; simpa [Int.pow_succ] using hb
    · rw [Int.pow_succ, Nat.mul_succ, p2_add]
      have h1 := ih (by omega)
      have h2 : b ^ n * b ≤ b ^ n * p2 k := Int.mul_le_mul_of_nonneg_left (by omega) (Int.pow_nonneg hb0)
      have h3 : b ^ n * p2 k < p2 (k * n) * p2 k := Int.mul_lt_mul_of_pos_right h1 (p2_pos k)
      omega
theorem pow_le_one {b : Int} (hb0 : 0 ≤ b) (hb : b < 2) (n : Nat) : b ^ n ≤ 1 := by
  induction n with
  | zero => simp
  | succ n ih =>
    rw [Int.pow_succ]
    have h1 : b ^ n * b ≤ 1 * b := Int.mul_le_mul_of_nonneg_right ih hb0
    omega
theorem pw_2048 : p2 65536 = Nt.pw 2048 := p2_32 2048
/-- a power in reach has at most 2048 limbs -/
theorem pow_lt {b : Int} {n k : Nat} (hb0 : 0 ≤ b) (hk : IsLen b k) (h : b < 2 ∨ k * n ≤ 65536) : b ^ n < Nt.pw 2048 := by
  have h1 : (1 : Int) < Nt.pw 2048 := by
    have := Nt.pw_mono (m := 1) (n := 2048) (by omega)
    have e : Nt.pw 1 = 4294967296 := by simp [Nt.pw]
    omega
  rcases h with h | h
  · have := pow_le_one hb0 h n; omega
  · by_cases hn : n = 0
    · subst hn; simpa using h1
    · have h2 := pow_p2 hb0 hk.1 n (by omega)
      have h3 := p2_mono h
      rw [pw_2048] at h3
      omega

theorem pow_half {s : Int} (n : Nat) : s ^ n = (s * s) ^ (n / 2) * (if n % 2 = 1 then s else 1) := by
  have e : n = 2 * (n / 2) + n % 2 := by omega
  generalize n / 2 = q at *
  rcases Nat.mod_two_eq_zero_or_one n with h | h
  · rw [h] at e ⊢
    subst e
    rw [Nat.add_zero, Int.pow_mul, Int.pow_succ, Int.pow_one]
    simp
  · rw [h] at e ⊢
    subst e
    rw [Int.pow_succ, Int.pow_mul, Int.pow_succ, Int.pow_one]
    simp

theorem le_of_prod {a b c : Int} (ha : 0 ≤ a) (hb : 1 ≤ b) (h : a * b = c) : a ≤ c := by
  have : a * 1 ≤ a * b := Int.mul_le_mul_of_nonneg_left hb ha
  omega
theorem pow_ge_one {s : Int} (hs : 1 ≤ s) (n : Nat) : 1 ≤ s ^ n := by
  induction n with
  | zero => simp
  | succ n ih =>
    rw [Int.pow_succ]
    have : 1 * s ≤ s ^ n * s := Int.mul_le_mul_of_nonneg_right ih (by omega)
    omega

set_option maxHeartbeats 1000000 in
theorem pow_neg {w : World} {b n : Int} (hn : n < 0) :
    Calls Tryz.prog 189 #[.int .u32 b, .int .i64 n] w fun e w' => e = .returned (.tuple #[.slice none 0 0, .bool false]) ∧ w' = w := by
  go_enter Tryz.func189, Tryz.ntmps189
  go_wp2
  go_ret2
  exact ⟨rfl, rfl⟩

set_option maxHeartbeats 1000000 in
theorem pow_big {w : World} {b n : Int} {k : Nat} (hn : 0 ≤ n) (hb2 : 2 ≤ b) (hb1 : b < 4294967296) (hk : IsLen b k) (hk0 : 0 < k) (hbig : 65536 / (k : Int) < n) :
    Calls Tryz.prog 189 #[.int .u32 b, .int .i64 n] w fun e w' => e = .returned (.tuple #[.slice none 0 0, .bool false]) ∧ w' = w := by
  have hn' : ¬ n < 0 := by omega
  have hkz : ¬ (k : Int) = 0 := by omega
  have Hk := hide hk
  clear hk
  go_enter Tryz.func189, Tryz.ntmps189
  go_wp2_with fail
  refine (len32_any b w (by omega) hb1).mono ?_
  rintro e w' ⟨k', rfl, hk', _, rfl⟩
  have hkk : k' = k := isLen_unique hk' Hk.out
  subst hkk
  clear hk'
  go_wp2
  go_ret2
  exact ⟨rfl, rfl⟩

/-- what a round leaves -/
theorem pow_round {p s b : Int} {n N : Nat} (heq : p * s ^ n = b ^ N) (hc : (1 ≤ p ∧ 1 ≤ s) ∨ (s = 0 ∧ 0 ≤ p ∧ p ≤ 1)) (hlt : b ^ N < Nt.pw 2048) (hn : 0 < n) :
    s < Nt.pw 2048 ∧ (if n % 2 = 1 then p * s else p) < Nt.pw 2048 ∧ (if n % 2 = 1 then p * s else p) * (s * s) ^ (n / 2) = b ^ N ∧
      ((1 ≤ (if n % 2 = 1 then p * s else p) ∧ 1 ≤ s * s) ∨ (s * s = 0 ∧ 0 ≤ (if n % 2 = 1 then p * s else p) ∧ (if n % 2 = 1 then p * s else p) ≤ 1)) := by
  have e3 : (if n % 2 = 1 then p * s else p) * (s * s) ^ (n / 2) = b ^ N := by
    rw [← heq, pow_half n]
    split <;> grind
  have h1 : (1 : Int) < Nt.pw 2048 := by
    have := Nt.pw_mono (m := 1) (n := 2048) (by omega)
    have e : Nt.pw 1 = 4294967296 := by simp [Nt.pw]
    omega
  rcases hc with ⟨hp, hs⟩ | ⟨hs, hp0, hp1⟩
  · have hss : 1 ≤ s * s := by have : 1 * s ≤ s * s := Int.mul_le_mul_of_nonneg_right hs (by omega); omega
    have hps : 1 ≤ (if n % 2 = 1 then p * s else p) := by
      split
      · have : 1 * s ≤ p * s := Int.mul_le_mul_of_nonneg_right hp (by omega); omega
      · exact hp
    have hle := le_of_prod (by omega) (pow_ge_one hss (n / 2)) e3
    have hsn : s ≤ s ^ n := by
      obtain ⟨k, rfl⟩ : ∃ k, n = k + 1 := ⟨n - 1, by omega⟩
      rw [Int.pow_succ]
      have h3 : 1 * s ≤ s ^ k * s := Int.mul_le_mul_of_nonneg_right (pow_ge_one hs k) (by omega)
      omega
    have hle2 : s ^ n ≤ b ^ N := le_of_prod (b := p) (by omega) hp (by rw [Int.mul_comm]; exact heq)
    exact ⟨by omega, by omega, e3, Or.inl ⟨hps, hss⟩⟩
  · subst hs
    refine ⟨by omega, ?_, e3, Or.inr ⟨by simp, ?_, ?_⟩⟩
    · split
      · simp; omega
      · omega
    · split
      · simp
      · omega
    · split
      · simp
      · omega

set_option maxRecDepth 20000 in
set_option maxHeartbeats 4000000 in
theorem pow_ok {w : World} {b : Int} {N k : Nat} (hb0 : 0 ≤ b) (hb1 : b < 4294967296) (hk : IsLen b k) (hN : (N : Int) ≤ 9223372036854775807) (hin : b < 2 ∨ (N : Int) ≤ 65536 / (k : Int)) :
    Calls Tryz.prog 189 #[.int .u32 b, .int .i64 N] w fun e w' => ∃ v, e = .returned (.tuple #[v, .bool true]) ∧ Num w.heap.size w' v (b ^ N) 2048 ∧ Below w.heap.size w w' := by
  have hlt : b ^ N < Nt.pw 2048 := pow_lt hb0 hk (by
    rcases hin with h | h
    · exact Or.inl h
    · by_cases hk0 : k = 0
      · subst hk0; right; omega
      · right
        have h2 : (N : Int) * (k : Int) ≤ 65536 := Int.le_trans (Int.mul_le_mul_of_nonneg_right h (by omega)) (Int.ediv_mul_le _ (by omega))
        have h3 : ((k * N : Nat) : Int) = (N : Int) * (k : Int) := by rw [Int.natCast_mul, Int.mul_comm]
        omega)
  have HLt := hide hlt
  have Hk := hide hk
  have hn' : ¬ (N : Int) < 0 := by omega
  clear hlt hk
  go_enter Tryz.func189, Tryz.ntmps189
  by_cases h2 : 2 ≤ b
  · go_wp2_with fail
    refine (len32_any b w hb0 hb1).mono ?_
    rintro e w' ⟨k', rfl, hk', _, rfl⟩
    have hkk : k' = k := isLen_unique hk' Hk.out
    subst hkk
    have hkz : ¬ (k' : Int) = 0 := by
      intro h
      have h3 : k' = 0 := by omega
      have h4 := hk'.1
      rw [h3] at h4
      simp only [p2] at h4
      omega
    have hin2 : ¬ 65536 / (k' : Int) < (N : Int) := by omega
    have hin3 : decide (65536 / (k' : Int) < (N : Int)) = false := decide_eq_false hin2
    obtain ⟨Q, hQ⟩ : ∃ Q, 65536 / (k' : Int) = Q := ⟨_, rfl⟩
    rw [hQ] at hin2 hin3
    clear hk' hin
    go_wp2_with fail
    with_reducible refine (from_any (w := w') 1 (by omega) (by omega)).mono ?_
    rintro e w1 ⟨vp, rfl, hn1, hb1w⟩
    go_wp2_with fail
    with_reducible refine (from_any b hb0 (by omega)).mono ?_
    rintro e w2 ⟨vs, rfl, hn2, hb2w⟩
    have hp0 : Num w'.heap.size w2 vp 1 2048 := (hn1.below hb2w).mono (by omega)
    have hs0 : Num w'.heap.size w2 vs b 4096 := (hn2.low hb1w.size).mono (by omega)
    have hbb := below_trans hb1w hb2w
    clear hn1 hn2 hb1w hb2w
    go_wp2
    go_loopg [6, 7, 1] N (fun c sp ss sn wr => ∃ (p s : Int), sn = .int .i64 c ∧ (c : Int) ≤ 9223372036854775807 ∧ Num w'.heap.size wr sp p 2048 ∧ Num w'.heap.size wr ss s 4096 ∧ p * s ^ c = b ^ N ∧ ((1 ≤ p ∧ 1 ≤ s) ∨ (s = 0 ∧ 0 ≤ p ∧ p ≤ 1)) ∧ Below w'.heap.size w' wr)
    case atStart => exact ⟨1, b, rfl, hN, hp0, hs0, by simp, by omega, hbb⟩
    case round =>
      clear hp0 hs0 hbb
      obtain ⟨p, s, rfl, hc, hnp, hns, heq, hcase, hbw⟩ := hrel
      by_cases hz : gk = 0
      · subst hz
        have hfin : p = b ^ N := by simpa using heq
        have HF := hide hfin
        clear hfin heq
        go_wp2
        go_ret2
        exact ⟨_, rfl, by rw [← HF.out]; exact hnp, hbw⟩
      · have hpos : (0 : Int) < (gk : Int) := by omega
        obtain ⟨q1, q2, q3, q4⟩ := pow_round heq hcase HLt.out (by omega : 0 < gk)
        have hns2 := hns.tight q1
        have hcase2 := q4
        have Q2 := hide q2
        have Q3 := hide q3
        have Heq := hide heq
        have HC := hide hcase
        clear q1 q2 q3 q4 heq hcase
        obtain ⟨hk2, hh2⟩ : ∃ h, h = gk / 2 := ⟨_, rfl⟩
        have j1 : (gk : Int) / 2 = (hk2 : Int) := by omega
        rw [← hh2] at Q3
        have hk2lt : hk2 < gk := by omega
        clear hh2
        by_cases hodd : gk % 2 = 1
        · have j2 : (gk : Int) % 2 = 1 := by omega
          have j3 : ((gk : Int) % 2 == 1) = true := by simp [j2]
          go_wp2_with fail
          with_reducible refine (mul_any hnp.arg hns2.arg (by omega) (by omega)).mono ?_
          rintro e w3 ⟨v3, rfl, hn3, hb3⟩
          go_wp2_with fail
          with_reducible refine (mul_any (hns2.below hb3).arg (hns2.below hb3).arg (by omega) (by omega)).mono ?_
          rintro e w4 ⟨v4, rfl, hn4, hb4⟩
          have hp4 : Num w'.heap.size w4 v3 (p * s) 2048 := ((hn3.below hb4).low hbw.size).tight (by have h := Q2.out; rw [if_pos hodd] at h; exact h)
          have hs4 : Num w'.heap.size w4 v4 (s * s) 4096 := (hn4.low (Nat.le_trans hbw.size hb3.size)).mono (by omega)
          have hbb4 := below_trans (below_trans hbw hb3) hb4
          have hq3 : p * s * (s * s) ^ hk2 = b ^ N := by have h := Q3.out; rw [if_pos hodd] at h; exact h
          have hq4 : (1 ≤ p * s ∧ 1 ≤ s * s) ∨ (s * s = 0 ∧ 0 ≤ p * s ∧ p * s ≤ 1) := by rw [if_pos hodd] at hcase2; exact hcase2
          have HQ3 := hide hq3
          have HQ4 := hide hq4
          clear hn3 hn4 hb3 hb4 hq3 hq4 hcase2
          go_wp2
          go_roundg hk2
          case measure => omega
          case rel => exact ⟨p * s, s * s, by first | rfl | (rw [← j1]; rfl) | simp [j1], by omega, hp4, hs4, HQ3.out, HQ4.out, hbb4⟩
        · have j2 : (gk : Int) % 2 = 0 := by omega
          have j3 : ((gk : Int) % 2 == 1) = false := by simp [j2]
          go_wp2_with fail
          with_reducible refine (mul_any hns2.arg hns2.arg (by omega) (by omega)).mono ?_
          rintro e w4 ⟨v4, rfl, hn4, hb4⟩
          have hp4 : Num w'.heap.size w4 _ p 2048 := hnp.below hb4
          have hs4 : Num w'.heap.size w4 v4 (s * s) 4096 := (hn4.low hbw.size).mono (by omega)
          have hbb4 := below_trans hbw hb4
          have hq3 : p * (s * s) ^ hk2 = b ^ N := by have h := Q3.out; rw [if_neg hodd] at h; exact h
          have hq4 : (1 ≤ p ∧ 1 ≤ s * s) ∨ (s * s = 0 ∧ 0 ≤ p ∧ p ≤ 1) := by rw [if_neg hodd] at hcase2; exact hcase2
          have HQ3 := hide hq3
          have HQ4 := hide hq4
          clear hn4 hb4 hq3 hq4 hcase2
          go_wp2
          go_roundg hk2
          case measure => omega
          case rel => exact ⟨p, s * s, by first | rfl | (rw [← j1]; rfl) | simp [j1], by omega, hp4, hs4, HQ3.out, HQ4.out, hbb4⟩
  · have hb2 : ¬ 2 ≤ b := h2
    clear hin
    go_wp2_with fail
    with_reducible refine (from_any (w := w) 1 (by omega) (by omega)).mono ?_
    rintro e w1 ⟨vp, rfl, hn1, hb1w⟩
    go_wp2_with fail
    with_reducible refine (from_any b hb0 (by omega)).mono ?_
    rintro e w2 ⟨vs, rfl, hn2, hb2w⟩
    have hp0 : Num w.heap.size w2 vp 1 2048 := (hn1.below hb2w).mono (by omega)
    have hs0 : Num w.heap.size w2 vs b 4096 := (hn2.low hb1w.size).mono (by omega)
    have hbb := below_trans hb1w hb2w
    clear hn1 hn2 hb1w hb2w
    go_wp2
    go_loopg [6, 7, 1] N (fun c sp ss sn wr => ∃ (p s : Int), sn = .int .i64 c ∧ (c : Int) ≤ 9223372036854775807 ∧ Num w.heap.size wr sp p 2048 ∧ Num w.heap.size wr ss s 4096 ∧ p * s ^ c = b ^ N ∧ ((1 ≤ p ∧ 1 ≤ s) ∨ (s = 0 ∧ 0 ≤ p ∧ p ≤ 1)) ∧ Below w.heap.size w wr)
    case atStart => exact ⟨1, b, rfl, hN, hp0, hs0, by simp, by omega, hbb⟩
    case round =>
      clear hp0 hs0 hbb
      obtain ⟨p, s, rfl, hc, hnp, hns, heq, hcase, hbw⟩ := hrel
      by_cases hz : gk = 0
      · subst hz
        have hfin : p = b ^ N := by simpa using heq
        have HF := hide hfin
        clear hfin heq
        go_wp2
        go_ret2
        exact ⟨_, rfl, by rw [← HF.out]; exact hnp, hbw⟩
      · have hpos : (0 : Int) < (gk : Int) := by omega
        obtain ⟨q1, q2, q3, q4⟩ := pow_round heq hcase HLt.out (by omega : 0 < gk)
        have hns2 := hns.tight q1
        have hcase2 := q4
        have Q2 := hide q2
        have Q3 := hide q3
        have Heq := hide heq
        have HC := hide hcase
        clear q1 q2 q3 q4 heq hcase
        obtain ⟨hk2, hh2⟩ : ∃ h, h = gk / 2 := ⟨_, rfl⟩
        have j1 : (gk : Int) / 2 = (hk2 : Int) := by omega
        rw [← hh2] at Q3
        have hk2lt : hk2 < gk := by omega
        clear hh2
        by_cases hodd : gk % 2 = 1
        · have j2 : (gk : Int) % 2 = 1 := by omega
          have j3 : ((gk : Int) % 2 == 1) = true := by simp [j2]
          go_wp2_with fail
          with_reducible refine (mul_any hnp.arg hns2.arg (by omega) (by omega)).mono ?_
          rintro e w3 ⟨v3, rfl, hn3, hb3⟩
          go_wp2_with fail
          with_reducible refine (mul_any (hns2.below hb3).arg (hns2.below hb3).arg (by omega) (by omega)).mono ?_
          rintro e w4 ⟨v4, rfl, hn4, hb4⟩
          have hp4 : Num w.heap.size w4 v3 (p * s) 2048 := ((hn3.below hb4).low hbw.size).tight (by have h := Q2.out; rw [if_pos hodd] at h; exact h)
          have hs4 : Num w.heap.size w4 v4 (s * s) 4096 := (hn4.low (Nat.le_trans hbw.size hb3.size)).mono (by omega)
          have hbb4 := below_trans (below_trans hbw hb3) hb4
          have hq3 : p * s * (s * s) ^ hk2 = b ^ N := by have h := Q3.out; rw [if_pos hodd] at h; exact h
          have hq4 : (1 ≤ p * s ∧ 1 ≤ s * s) ∨ (s * s = 0 ∧ 0 ≤ p * s ∧ p * s ≤ 1) := by rw [if_pos hodd] at hcase2; exact hcase2
          have HQ3 := hide hq3
          have HQ4 := hide hq4
          clear hn3 hn4 hb3 hb4 hq3 hq4 hcase2
          go_wp2
          go_roundg hk2
          case measure => omega
          case rel => exact ⟨p * s, s * s, by first | rfl | (rw [← j1]; rfl) | simp [j1], by omega, hp4, hs4, HQ3.out, HQ4.out, hbb4⟩
        · have j2 : (gk : Int) % 2 = 0 := by omega
          have j3 : ((gk : Int) % 2 == 1) = false := by simp [j2]
          go_wp2_with fail
          with_reducible refine (mul_any hns2.arg hns2.arg (by omega) (by omega)).mono ?_
          rintro e w4 ⟨v4, rfl, hn4, hb4⟩
          have hp4 : Num w.heap.size w4 _ p 2048 := hnp.below hb4
          have hs4 : Num w.heap.size w4 v4 (s * s) 4096 := (hn4.low hbw.size).mono (by omega)
          have hbb4 := below_trans hbw hb4
          have hq3 : p * (s * s) ^ hk2 = b ^ N := by have h := Q3.out; rw [if_neg hodd] at h; exact h
          have hq4 : (1 ≤ p ∧ 1 ≤ s * s) ∨ (s * s = 0 ∧ 0 ≤ p ∧ p ≤ 1) := by rw [if_neg hodd] at hcase2; exact hcase2
          have HQ3 := hide hq3
          have HQ4 := hide hq4
          clear hn4 hb4 hq3 hq4 hcase2
          go_wp2
          go_roundg hk2
          case measure => omega
          case rel => exact ⟨p, s * s, by first | rfl | (rw [← j1]; rfl) | simp [j1], by omega, hp4, hs4, HQ3.out, HQ4.out, hbb4⟩

end Go.Proofs.YtejenbkhhcjeaaaGreatDoor

namespace Go.Proofs.YtejenbkhhcjeaaaGreatDoor
open Go.RowKit

theorem row_one (w : World) (x : Int) : Row .u32 41 (w.alloc (.cells #[.int .u32 x] 41)) w.heap.size [x] := by
  unfold Row
  rw [heap_alloc_new]
  rfl
theorem val_one (x : Int) : Nt.val [x] = x := by
  show Nt.vt _ 1 = x
  simp only [Nt.vt, Nt.pw, Nt.lb, List.getD_cons_zero]
  omega
theorem ok_one_limb {x : Int} (h : 0 ≤ x ∧ x < 4294967296) : Nt.Ok [x] := by
  intro i
  match i with
  | 0 => exact h
  | i + 1 => simp [Nt.lb]
theorem arg_one (w : World) {x : Int} (h : 0 ≤ x ∧ x < 4294967296) : Arg (w.alloc (.cells #[.int .u32 x] 41)) (.slice (some ⟨w.heap.size, 0, none⟩) 1 1) x 1 := by
  refine ⟨[x], ⟨some ⟨w.heap.size, 0, none⟩, 1, rfl, Nat.le_refl _, by unfold maxLen; omega, fun _ => ⟨w.heap.size, 0, rfl, (row_one w x).lt, fun i hi => ?_⟩⟩, ok_one_limb h, val_one x, Nat.le_refl _⟩
  rw [Nat.zero_add]
  exact (row_one w x).cell hi
theorem below_alloc (w : World) (o : Obj) : Below w.heap.size w (w.alloc o) := (Below.refl _ _).alloc (Nat.le_refl _) _
theorem arg_nil (w : World) : Arg w (.slice none 0 0) 0 0 := ⟨[], ⟨none, 0, rfl, Nat.le_refl _, by unfold maxLen; omega, fun h => absurd h (by simp)⟩, Nt.ok_nil, rfl, Nat.le_refl _⟩
theorem arg_two (w : World) (o : Obj) {x : Int} (h : 0 ≤ x ∧ x < 4294967296) : Arg ((w.alloc o).alloc (.cells #[.int .u32 x] 41)) (.slice (some ⟨w.heap.size + 1, 0, none⟩) 1 1) x 1 := by
  have := arg_one (w.alloc o) h
  simpa using this
/-- two limbs -/
theorem canon_two {x y : Int} (hx : 0 ≤ x ∧ x < 4294967296) (hy : 0 < y ∧ y < 4294967296) : Nt.Canon [x, y] := by
  refine ⟨fun i => ?_, fun _ => ?_⟩
  · match i with
    | 0 => exact hx
    | 1 => exact ⟨Int.le_of_lt hy.1, hy.2⟩
    | i + 2 => simp [Nt.lb]
  · show y ≠ 0; omega
theorem val_two (x y : Int) : Nt.val [x, y] = x + 4294967296 * y := by
  show Nt.vt _ 2 = _
  simp only [Nt.vt, Nt.pw, Nt.lb, List.getD_cons_zero, List.getD_cons_succ]
  omega
theorem made_two {B : Nat} {w : World} {v : Value} {x y : Int} (h : Made .u32 41 B w v [x, y]) : ∃ g, v = .slice (some ⟨g, 0, none⟩) 2 2 ∧ g < w.heap.size ∧ w.cell? ⟨g, 0, none⟩ = some (.int .u32 x) ∧ w.cell? ⟨g, 1, none⟩ = some (.int .u32 y) := by
  obtain ⟨ao, rfl, _, h3⟩ := h
  obtain ⟨g, rest, rfl, _, hr⟩ := h3 (by simp)
  exact ⟨g, rfl, hr.lt, hr.cell (i := 0) (by simp), hr.cell (i := 1) (by simp)⟩

end Go.Proofs.YtejenbkhhcjeaaaGreatDoor

namespace Go.Proofs.YtejenbkhhcjeaaaGreatDoor
open Go.RowKit

theorem canon_one {x : Int} (hx : 0 < x ∧ x < 4294967296) : Nt.Canon [x] := ⟨ok_one_limb ⟨by omega, hx.2⟩, fun _ => by show x ≠ 0; omega⟩
theorem num_row1 {B g : Nat} {w : World} {x : Int} (hr : Row .u32 41 w g [x]) (hB : B ≤ g) (hx : 0 < x ∧ x < 4294967296) : Num B w (.slice (some ⟨g, 0, none⟩) 1 1) x 1 :=
  ⟨[x], ⟨some ⟨g, 0, none⟩, rfl, by unfold maxLen; simp, fun _ => ⟨g, [], rfl, hB, hr⟩⟩, canon_one hx, val_one x, Nat.le_refl _⟩

set_option maxHeartbeats 1000000 in
theorem trimByte_c {w : World} :
    Calls Tryz.prog 180 #[.string ⟨#[0, 1, 0]⟩, .int .u8 0] w fun e w' => e = .returned (.string ⟨#[1, 0]⟩) ∧ w' = w := by
  go_enter Tryz.func180, Tryz.ntmps180
  go_wp2
  refine wp_loop_rounds 3 ?_
  rw [rounds_succ]
  go_wp2
  rw [rounds_succ]
  go_wp2
  go_ret
  exact ⟨rfl, rfl⟩

set_option maxRecDepth 20000 in
set_option maxHeartbeats 1000000 in
theorem trimLeft_c {w : World} :
    Calls Tryz.prog 158 #[.string ⟨#[0, 1, 0]⟩, .string ⟨#[0]⟩] w fun e w' => e = .returned (.string ⟨#[1, 0]⟩) ∧ w' = w := by
  go_enter Tryz.func158, Tryz.ntmps158
  go_wp2_with fail
  refine trimByte_c.mono ?_
  rintro e w' ⟨rfl, rfl⟩
  go_wp2
  go_ret
  exact ⟨rfl, rfl⟩

set_option maxRecDepth 20000 in
set_option maxHeartbeats 2000000 in
theorem fromBytes_c {w : World} :
    Calls Tryz.prog 112 #[.string ⟨#[0, 1, 0]⟩] w fun e w' => ∃ v, e = .returned (.tuple #[v, .bool true]) ∧ Num w.heap.size w' v 256 1 ∧ Below w.heap.size w w' := by
  go_enter Tryz.func112, Tryz.ntmps112
  go_wp2_with fail
  refine trimLeft_c.mono ?_
  rintro e w' ⟨rfl, rfl⟩
  go_wp2_with (at_make; refine wpList_make_row _ rfl _ _ 23 rfl 41 .u32 4 Tryz.underlying23 Tryz.infoU32 _ _ _ _ 1 1 rfl rfl (by omega) (by omega) (Nat.le_refl _) (by omega) (by unfold maxLen; omega) ?_)
  intro w1 hr hbel hsz
  replace hr : Row .u32 41 w1 w'.heap.size [0] := hr
  have hc0 : w1.cell? ⟨w'.heap.size, 0, none⟩ = some (.int .u32 0) := hr.cell (i := 0) (by simp)
  have hf0 := hr.frozen 0
  have c1 : ((({ data := #[1, 0] } : ByteArray)[1].toNat : Nat) : Int) = 0 := rfl
  have c0 : ((({ data := #[1, 0] } : ByteArray)[0].toNat : Nat) : Int) = 1 := rfl
  have o1 : bits .or .u32 0 0 = 0 := by decide
  have o2 : bits .or .u32 0 256 = 256 := by decide
  go_wp2
  refine wp_loop_rounds 3 ?_
  rw [rounds_succ]
  go_wp2
  go_region
  go_wp2
  rw [rounds_succ]
  go_wp2
  go_region
  go_wp2
  rw [rounds_succ]
  go_wp2
  go_ret2
  exact ⟨_, rfl, num_row1 (x := 256) ((hr.set 0 0).set 0 256) (Nat.le_refl _) (by omega), ((hbel.setCell (p := ⟨w'.heap.size, 0, none⟩) (Nat.le_refl _) _).setCell (p := ⟨w'.heap.size, 0, none⟩) (Nat.le_refl _) _).drew.drew⟩

theorem Tryz.infoU8 : (Tryz.prog.info? 5).map (fun i => (i.zero, i.size, i.bytes)) = some (some (.int .u8 0), 1, 1) := by kernel_rfl

/-- string(b) of a row of bytes -/
theorem row_string {w : World} {g cap : Nat} {zs : List Int} (hr : Row .u8 5 w g zs) :
    (convert 73 9 (.slice (some ⟨g, 0, none⟩) zs.length cap)).run Tryz.prog w = .ok (.string (strOfNums zs)) w :=
  run_convert_bytes_arg w 73 5 Tryz.underlying73 Tryz.underlying5 g 0 zs.length cap zs rfl (fun i hi => by rw [Nat.zero_add]; exact hr.cell hi) 9 Tryz.underlying9

set_option maxRecDepth 20000 in
set_option maxHeartbeats 2000000 in
theorem bytes_c {w : World} {va : Value} (ha : Arg w va 65536 1) :
    Calls Tryz.prog 26 #[va] w fun e w' => e = .returned (.string ⟨#[1, 0, 0]⟩) ∧ Below w.heap.size w w' := by
  have hlen := len_any ha (by omega)
  obtain ⟨zs, ⟨ao, cap, rfl, hl1, hl2, hc⟩, ho, hv, hk⟩ := ha
  have hzl : zs.length = 1 := by
    rcases Nat.eq_zero_or_pos zs.length with h | h
    · rw [List.eq_nil_of_length_eq_zero h, Nt.val_nil] at hv; omega
    · omega
  have hz0 : Nt.lb zs 0 = 65536 := by
    unfold Nt.val at hv
    rw [hzl] at hv
    simpa [Nt.vt, Nt.pw] using hv
  obtain ⟨b1, o1, rfl, hb1, hcell⟩ := hc (by omega)
  have g0 := hcell 0 (by omega)
  rw [hz0, Nat.add_zero] at g0
  rw [hzl] at hlen ⊢
  clear hcell hv hk ho hl1 hc
  go_enter Tryz.func26, Tryz.ntmps26
  go_wp2_with fail
  refine hlen.mono ?_
  clear hlen
  rintro e w' ⟨k, rfl, hk, _, rfl⟩
  have hk17 : k = 17 := isLen_unique hk ⟨by decide, fun _ => by decide⟩
  subst hk17
  clear hk
  go_wp2_with (at_make; refine wpList_make_row _ rfl _ _ 73 rfl 5 .u8 1 Tryz.underlying73 Tryz.infoU8 _ _ _ _ 3 3 rfl rfl (by omega) (by omega) (Nat.le_refl _) (by omega) (by unfold maxLen; omega) ?_)
  intro w1 hr hbel hsz
  replace hr : Row .u8 5 w1 w'.heap.size [0, 0, 0] := hr
  have hc0 : w1.cell? ⟨w'.heap.size, 0, none⟩ = some (.int .u8 0) := hr.cell (i := 0) (by simp)
  have hc1 : w1.cell? ⟨w'.heap.size, 1, none⟩ = some (.int .u8 0) := hr.cell (i := 1) (by simp)
  have hc2 : w1.cell? ⟨w'.heap.size, 2, none⟩ = some (.int .u8 0) := hr.cell (i := 2) (by simp)
  have hf0 := hr.frozen 0
  have hf1 := hr.frozen 1
  have hf2 := hr.frozen 2
  have g1 := (hbel.cell (p := ⟨b1, o1, none⟩) hb1).trans g0
  have hne : ¬ w'.heap.size = b1 := by omega
  have hrow : Row .u8 5 (((w1.setCell ⟨w'.heap.size, 2, none⟩ (.int .u8 0)).setCell ⟨w'.heap.size, 1, none⟩ (.int .u8 0)).setCell ⟨w'.heap.size, 0, none⟩ (.int .u8 1)) w'.heap.size [1, 0, 0] := ((hr.set 2 0).set 1 0).set 0 1
  have hcv := row_string (cap := 3) hrow
  have hs9 : strOfNums [1, 0, 0] = ⟨#[1, 0, 0]⟩ := rfl
  have l3 : ([1, 0, 0] : List Int).length = 3 := rfl
  rw [hs9, l3] at hcv
  have hbel2 := ((hbel.setCell (p := ⟨w'.heap.size, 2, none⟩) (Nat.le_refl _) (.int .u8 0)).setCell (p := ⟨w'.heap.size, 1, none⟩) (Nat.le_refl _) (.int .u8 0)).setCell (p := ⟨w'.heap.size, 0, none⟩) (Nat.le_refl _) (.int .u8 1)
  go_wp2
  refine wp_loop_rounds 4 ?_
  rw [rounds_succ]
  go_wp2
  rw [rounds_succ]
  go_wp2
  rw [rounds_succ]
  go_wp2
  rw [rounds_succ]
  go_wp2
  go_ret
  exact ⟨rfl, hbel2⟩

end Go.Proofs.YtejenbkhhcjeaaaGreatDoor

namespace Go.Proofs.YtejenbkhhcjeaaaGreatDoor
open Go.RowKit

/-- a number as bytes, the highest first -/
def Bstr (n : Int) (s : ByteArray) : Prop := ∃ ds, Nb.Canon ds ∧ Nb.val ds = n ∧ s = strOfNums ds.reverse

theorem lb_reverse {xs : List Int} {i : Nat} (h : i < xs.length) : Nt.lb xs.reverse i = Nt.lb xs (xs.length - 1 - i) := by
  have h2 : xs.length - 1 - i < xs.length := by omega
  simp [Nt.lb, h, h2]

set_option maxRecDepth 20000 in
set_option maxHeartbeats 4000000 in
theorem qbytes_any {w : World} {va : Value} {n : Int} {k : Nat} (ha : Arg w va n k) (hk : k ≤ 1099511627776) :
    Calls Tryz.prog 26 #[va] w fun e w' => ∃ s, e = .returned (.string s) ∧ Bstr n s ∧ s.size ≤ 4 * k ∧ Below w.heap.size w w' := by
  have hlen := len_any ha hk
  obtain ⟨xs, ⟨ao, cap, rfl, hl1, hl2, hc⟩, ho, hv, hxk⟩ := ha
  have hlen2 := len_any (w := w) (va := .slice ao xs.length cap) (n := n) (ka := xs.length) ⟨xs, ⟨ao, cap, rfl, hl1, hl2, hc⟩, ho, hv, Nat.le_refl _⟩ (by omega)
  clear hlen
  have Hv := hide hv
  clear hv
  go_enter Tryz.func26, Tryz.ntmps26
  go_wp2_with fail
  refine hlen2.mono ?_
  clear hlen2
  rintro e w' ⟨K, rfl, hK, hK2, rfl⟩
  obtain ⟨L, hL⟩ : ∃ L, L = (K + 7) / 8 := ⟨_, rfl⟩
  have j1 : ((K : Int) + 7) / 8 = (L : Int) := by omega
  have HL := hide hL
  have HK := hide hK
  have hLb : L ≤ 4 * xs.length := by omega
  clear hK hL
  go_wp2_with (at_make; refine wpList_make_row _ rfl _ _ 73 rfl 5 .u8 1 Tryz.underlying73 Tryz.infoU8 _ _ _ _ L L rfl rfl (by omega) (by omega) (Nat.le_refl _) (by omega) (by unfold maxLen; omega) ?_)
  intro w1 hr hbel hsz
  go_wp2
  go_loopw [12] (fun i wr => ∃ (k : Nat) (zs : List Int), k ≤ L ∧ i = .int .i64 k ∧ zs.length = L ∧ (∀ j, j < k → Nt.lb zs (L - 1 - j) = dg xs j) ∧ Row .u8 5 wr w'.heap.size zs ∧ Below w'.heap.size w' wr) (fun i _ => L - (intOf i).toNat)
  case atStart => exact ⟨0, List.replicate L 0, by omega, rfl, by simp, fun j hj => by omega, hr, hbel⟩
  case round =>
    obtain ⟨i, zs, hi, rfl, hzl, hz, hrow, hbr⟩ := hrel
    have HZ := hide hz
    have HZl := hide hzl
    clear hz hzl hr hbel
    by_cases hil : i < L
    · obtain ⟨b1, o1, rfl, hb1, hcell⟩ := (hc.below hbr) (by omega)
      obtain ⟨q, hq⟩ : ∃ q, q = i / 4 := ⟨_, rfl⟩
      obtain ⟨p, hp⟩ : ∃ p, p = L - 1 - i := ⟨_, rfl⟩
      have g0 := hcell q (by omega)
      have bq := ho q
      have q1 : (i : Int) / 4 = (q : Int) := by omega
      have q2 : (L : Int) - 1 - (i : Int) = (p : Int) := by omega
      have q3 : (q : Int) < (xs.length : Int) := by omega
      have q4 : (p : Int) < (L : Int) := by omega
      have g1 := hrow.cell (i := p) (by rw [HZl.out]; omega)
      have hfz := hrow.frozen p
      have hstep : ∀ y : Int, y = dg xs i → ∀ j, j < i + 1 → Nt.lb (zs.set p y) (L - 1 - j) = dg xs j := by
        intro y hy j hj
        by_cases e : j = i
        · subst e
          rw [hp, Nt.lb_set_eq (by rw [HZl.out]; omega), hy]
        · rw [Nt.lb_set_ne (by omega)]
          exact HZ.out j (by omega)
      have HSt := hide hstep
      have Hp := hide hp
      clear hcell hstep hp
      obtain ⟨r, hr4⟩ : ∃ r, r = i % 4 := ⟨_, rfl⟩
      have hd : dg xs i = Nt.lb xs q / Nb.pw r % 256 := by
        have e : i = 4 * q + r := by omega
        rw [e]; exact dg_at xs q r (by omega)
      have q5 : (i : Int) % 4 = (r : Int) := by omega
      have hrb : r < 4 := by omega
      have Hd := hide hd
      clear hd hq hr4
      match r, hrb with
      | 0, _ =>
        have hy : Nt.lb xs q % 256 = dg xs i := by
          rw [Hd.out]
          have e : Nb.pw 0 = 1 := by decide
          rw [e]; simp
        have Hy := hide hy
        clear hy
        go_wp2
        go_roundw
        case rel => exact ⟨i + 1, zs.set p (Nt.lb xs q % 256), by omega, by go_num, by rw [List.length_set]; exact HZl.out, HSt.out _ Hy.out, hrow.set _ _, hbr.setCell (Nat.le_refl _) _⟩
        case measure => simp [intOf]; omega
      | 1, _ =>
        have hy : Nt.lb xs q / 256 % 256 = dg xs i := by
          rw [Hd.out]
          have e : Nb.pw 1 = 256 := by decide
          rw [e]
        have Hy := hide hy
        clear hy
        go_wp2
        go_roundw
        case rel => exact ⟨i + 1, zs.set p (Nt.lb xs q / 256 % 256), by omega, by go_num, by rw [List.length_set]; exact HZl.out, HSt.out _ Hy.out, hrow.set _ _, hbr.setCell (Nat.le_refl _) _⟩
        case measure => simp [intOf]; omega
      | 2, _ =>
        have hy : Nt.lb xs q / 65536 % 256 = dg xs i := by
          rw [Hd.out]
          have e : Nb.pw 2 = 65536 := by decide
          rw [e]
        have Hy := hide hy
        clear hy
        go_wp2
        go_roundw
        case rel => exact ⟨i + 1, zs.set p (Nt.lb xs q / 65536 % 256), by omega, by go_num, by rw [List.length_set]; exact HZl.out, HSt.out _ Hy.out, hrow.set _ _, hbr.setCell (Nat.le_refl _) _⟩
        case measure => simp [intOf]; omega
      | 3, _ =>
        have hy : Nt.lb xs q / 16777216 = dg xs i := by
          rw [Hd.out]
          have e : Nb.pw 3 = 16777216 := by decide
          rw [e]; omega
        have Hy := hide hy
        clear hy
        go_wp2
        go_roundw
        case rel => exact ⟨i + 1, zs.set p (Nt.lb xs q / 16777216), by omega, by go_num, by rw [List.length_set]; exact HZl.out, HSt.out _ Hy.out, hrow.set _ _, hbr.setCell (Nat.le_refl _) _⟩
        case measure => simp [intOf]; omega
      | r + 4, h => omega
    · have hie : i = L := by omega
      subst hie
      have hds : Nb.Canon zs.reverse ∧ Nb.val zs.reverse = Nt.val xs := by
        refine bytes_canon ho (by rw [Hv.out]; exact HK.out) hK2 (by rw [List.length_reverse, HZl.out, HL.out]) (fun j hj => ?_)
        rw [List.length_reverse, HZl.out] at hj
        rw [lb_reverse (by rw [HZl.out]; exact hj), HZl.out]
        exact HZ.out j hj
      have hcv := row_string (cap := zs.length) hrow
      rw [HZl.out] at hcv
      have hfin : Bstr n (strOfNums zs) := ⟨zs.reverse, hds.1, by rw [hds.2, Hv.out], by rw [List.reverse_reverse]⟩
      have hsz2 : (strOfNums zs).size ≤ 4 * k := by rw [strOfNums_size, HZl.out]; omega
      have HF := hide hfin
      have HSz := hide hsz2
      clear hds hfin hsz2
      go_wp2
      go_ret
      exact ⟨_, rfl, HF.out, HSz.out, hbr⟩

end Go.Proofs.YtejenbkhhcjeaaaGreatDoor

namespace Go.Proofs.YtejenbkhhcjeaaaGreatDoor
open Go.RowKit

theorem bytes_uncons {v : ByteArray} (h : 0 < v.size) : v.data.toList = v[0] :: (v.extract 1 v.size).data.toList := by
  have e : (v.extract 1 v.size).data = v.data.extract 1 v.size := by simp
  rw [e]
  have h2 : 0 < v.data.size := h
  apply List.ext_getElem
  · simp; have : v.data.size = v.size := rfl; omega
  · intro i h1 h3
    cases i with
    | zero => rfl
    | succ i => simp

set_option maxRecDepth 20000 in
set_option maxHeartbeats 2000000 in
theorem trim0_any {w : World} {u : ByteArray} (hu : u.size ≤ 1099511627776) :
    Calls Tryz.prog 180 #[.string u, .int .u8 0] w fun e w' => ∃ v : ByteArray, e = .returned (.string v) ∧ w' = w ∧ v.data.toList = u.data.toList.dropWhile (· == 0) := by
  go_enter Tryz.func180, Tryz.ntmps180
  go_wp2
  go_loopg [0] u.size (fun c s wr => ∃ v : ByteArray, s = .string v ∧ v.size = c ∧ c ≤ 1099511627776 ∧ v.data.toList.dropWhile (· == 0) = u.data.toList.dropWhile (· == 0) ∧ wr = w)
  case atStart => exact ⟨u, rfl, rfl, hu, rfl, rfl⟩
  case round =>
    obtain ⟨v, rfl, hc, hcb, hd, rfl⟩ := hrel
    subst hc
    have HD := hide hd
    clear hd
    by_cases hp : 0 < v.size
    · have hun := bytes_uncons hp
      have hp2 : (0 : Int) < (v.size : Int) := by omega
      by_cases h0 : v[0] = 0
      · have hz : (((v[0].toNat : Nat) : Int) == 0) = true := by rw [h0]; rfl
        have hnew : (v.extract 1 v.size).data.toList.dropWhile (· == 0) = u.data.toList.dropWhile (· == 0) := by
          have h := HD.out
          rw [hun, List.dropWhile_cons, h0] at h
          simpa using h
        have hsz : (v.extract 1 v.size).size = v.size - 1 := by simp
        have HN := hide hnew
        have HS := hide hsz
        clear hun hnew hsz h0
        go_wp2
        go_roundg (v.size - 1)
        case measure => omega
        case rel => exact ⟨v.extract 1 v.size, rfl, HS.out, by omega, HN.out, rfl⟩
      · have hz : (((v[0].toNat : Nat) : Int) == 0) = false := by
          simp
          intro h
          exact h0 (UInt8.toNat_inj.1 (by simpa using h))
        have hfin : v.data.toList = u.data.toList.dropWhile (· == 0) := by
          rw [← HD.out, hun, List.dropWhile_cons]
          simp [h0]
        have HF := hide hfin
        clear hun hfin h0
        go_wp2
        go_ret
        exact ⟨v, rfl, rfl, HF.out⟩
    · have hs0 : v.size = 0 := by omega
      have hl0 : v.data.toList = [] := by
        apply List.eq_nil_of_length_eq_zero
        rw [Array.length_toList]
        exact hs0
      have hfin : v.data.toList = u.data.toList.dropWhile (· == 0) := by
        rw [← HD.out, hl0]; rfl
      have hp2 : ¬ (0 : Int) < (v.size : Int) := by omega
      have HF := hide hfin
      clear hl0 hfin hp
      go_wp2
      go_ret
      exact ⟨v, rfl, rfl, HF.out⟩

set_option maxRecDepth 20000 in
set_option maxHeartbeats 2000000 in
theorem trimLeft0_any {w : World} {u : ByteArray} (hu : u.size ≤ 1099511627776) :
    Calls Tryz.prog 158 #[.string u, .string ⟨#[0]⟩] w fun e w' => ∃ v : ByteArray, e = .returned (.string v) ∧ w' = w ∧ v.data.toList = u.data.toList.dropWhile (· == 0) := by
  by_cases h : u.toList = []
  · have hl0 : u.data.toList = [] := by rw [← ByteArray.toList_eq]; exact h
    have HF : Hid (u.data.toList = u.data.toList.dropWhile (· == 0)) := hide (by rw [hl0]; rfl)
    clear hl0
    go_enter Tryz.func158, Tryz.ntmps158
    go_wp2
    go_ret
    exact ⟨u, rfl, rfl, HF.out⟩
  · have hb : u.toList.isEmpty = false := by simpa using h
    have c0 : ((({ data := #[0] } : ByteArray)[0].toNat : Nat) : Int) = 0 := rfl
    go_enter Tryz.func158, Tryz.ntmps158
    go_wp2_with fail
    refine (trim0_any hu).mono ?_
    rintro e w' ⟨v, rfl, rfl, hv⟩
    have HV := hide hv
    clear hv
    go_wp2
    go_ret
    exact ⟨v, rfl, rfl, HV.out⟩

end Go.Proofs.YtejenbkhhcjeaaaGreatDoor

namespace Go.Proofs.YtejenbkhhcjeaaaGreatDoor
open Go.RowKit

theorem limbs_top {ds zs : List Int} (hd : Nb.Canon ds) (hz : Nt.Ok zs) (hl : zs.length = (ds.length + 3) / 4) (hv : Nt.val zs = Nb.val ds) : Nt.Canon zs := by
  refine ⟨hz, fun hn h0 => ?_⟩
  have hp := List.length_pos_iff.2 hn
  obtain ⟨m, hm⟩ : ∃ m, zs.length = m + 1 := ⟨zs.length - 1, by omega⟩
  have e : zs.length - 1 = m := by omega
  rw [e] at h0
  have h1 : Nt.val zs = Nt.vt zs m := by
    show Nt.vt zs zs.length = _
    rw [hm, Nt.vt_succ, h0]; simp
  have h2 := (Nt.vt_bounds hz m).2
  have h3 := Nb.canon_low hd (by intro e'; rw [e'] at hl; simp at hl; exact hn hl)
  have h4 := Nb.pw_mono (m := 4 * m) (n := ds.length - 1) (by omega)
  rw [Nb.pw_four] at h4
  omega
theorem strOfNums_at {es : List Int} {p : Nat} (h : p < (strOfNums es).size) (hp : 0 ≤ Nt.lb es p ∧ Nt.lb es p < 256) : (((strOfNums es)[p]'h).toNat : Int) = Nt.lb es p := by
  have hl : p < es.length := by rw [strOfNums_size] at h; exact h
  have e : (strOfNums es)[p]'h = UInt8.ofNat (es[p]).toNat := by
    show (strOfNums es).data[p]'h = _
    simp [strOfNums]
  have e2 : Nt.lb es p = es[p] := by simp [Nt.lb, hl]
  rw [e2] at hp ⊢
  rw [e, UInt8.toNat_ofNat']
  omega
/-- a byte more of a limb -/
theorem limb_or {x b : Int} {r : Nat} (hx : 0 ≤ x ∧ x < Nb.pw r) (hb : 0 ≤ b ∧ b < 256) (hr : r < 4) : bits .or .u32 x (b * Nb.pw r) = x + b * Nb.pw r ∧ x + b * Nb.pw r < Nb.pw (r + 1) ∧ Nb.pw (r + 1) ≤ 4294967296 := by
  have h1 : b * Nb.pw r ≤ 255 * Nb.pw r := Int.mul_le_mul_of_nonneg_right (by omega) (by have := Nb.pw_pos r; omega)
  have h2 : Nb.pw (r + 1) = 256 * Nb.pw r := Nb.pw_succ r
  have h3 := Nb.pw_mono (m := r + 1) (n := 4) (by omega)
  have e4 : Nb.pw 4 = 4294967296 := by decide
  have hlt : b * p2 (8 * r) + x < 4294967296 := by rw [p2_8]; omega
  have h := (or_add (n := 8 * r) hb.1 hx.1 (by rw [p2_8]; exact hx.2) hlt).2
  rw [p2_8] at h
  exact ⟨by rw [h]; omega, by omega, by omega⟩

theorem nt_set_val {zs : List Int} {q : Nat} (h : q < zs.length) (y : Int) : Nt.val (zs.set q y) = Nt.val zs + (y - Nt.lb zs q) * Nt.pw q := Nt.vt_set_any zs q y rfl h

/-- what a round of FromBytes leaves -/
def FromRel (ds zs : List Int) (k : Nat) : Prop := Nt.Ok zs ∧ (∀ j, k / 4 < j → Nt.lb zs j = 0) ∧ Nt.lb zs (k / 4) < Nb.pw (k % 4) ∧ Nt.val zs = Nb.vt ds k
theorem fromRel_step {ds zs : List Int} {k q r : Nat} (h : FromRel ds zs k) (hq : q = k / 4) (hr : r = k % 4) (hl : q < zs.length) (hb : 0 ≤ Nt.lb ds k ∧ Nt.lb ds k < 256) : FromRel ds (zs.set q (Nt.lb zs q + Nt.lb ds k * Nb.pw r)) (k + 1) := by
  obtain ⟨h1, h2, h3, h4⟩ := h
  rw [← hq, ← hr] at h3
  rw [← hq] at h2
  obtain ⟨_, o2, o3⟩ := limb_or (r := r) ⟨(h1 q).1, h3⟩ hb (by omega)
  have hpp : 0 ≤ Nt.lb ds k * Nb.pw r := Int.mul_nonneg hb.1 (by have := Nb.pw_pos r; omega)
  have h0 := (h1 q).1
  refine ⟨Nt.ok_set h1 (by omega), fun j hj => ?_, ?_, ?_⟩
  · rw [Nt.lb_set_ne (by omega)]; exact h2 j (by omega)
  · by_cases e : r = 3
    · have e1 : (k + 1) / 4 = q + 1 := by omega
      have e2 : (k + 1) % 4 = 0 := by omega
      rw [e1, e2, Nt.lb_set_ne (by omega), h2 _ (by omega)]
      decide
    · have e1 : (k + 1) / 4 = q := by omega
      have e2 : (k + 1) % 4 = r + 1 := by omega
      rw [e1, e2, Nt.lb_set_eq hl]
      exact o2
  · rw [nt_set_val hl, h4, Nb.vt_succ]
    have e : k = 4 * q + r := by omega
    have e2 : Nb.pw k = Nt.pw q * Nb.pw r := by rw [e, Nb.pw_add, Nb.pw_four]
    rw [e2]
    grind

set_option maxRecDepth 20000 in
set_option maxHeartbeats 4000000 in
theorem qfrom_any {w : World} {u : ByteArray} {n : Int} {ds : List Int} (hd : Nb.Canon ds) (hv : Nb.val ds = n) (hu : u.size ≤ 1099511627776) (hl : ds.length ≤ 1048576) (ht : u.data.toList.dropWhile (· == 0) = (strOfNums ds.reverse).data.toList) :
    Calls Tryz.prog 112 #[.string u] w fun e w' => ∃ v, e = .returned (.tuple #[v, .bool true]) ∧ Num w.heap.size w' v n ((ds.length + 3) / 4) ∧ Below w.heap.size w w' := by
  obtain ⟨L, hL⟩ : ∃ L, L = ds.length := ⟨_, rfl⟩
  obtain ⟨M, hM⟩ : ∃ M, M = (L + 3) / 4 := ⟨_, rfl⟩
  obtain ⟨s, hs⟩ : ∃ s, s = strOfNums ds.reverse := ⟨_, rfl⟩
  have hsz : s.size = L := by rw [hs, strOfNums_size, List.length_reverse, hL]
  have j1 : ((L : Int) + 3) / 4 = (M : Int) := by omega
  have hix : ∀ p (h : p < s.size), ((s[p]'h).toNat : Int) = Nt.lb ds (L - 1 - p) := by
    intro p h
    subst hs
    have hp : p < ds.length := by rw [strOfNums_size, List.length_reverse] at h; exact h
    rw [strOfNums_at h (by rw [lb_reverse hp]; exact hd.1 _), lb_reverse hp, hL]
  have Ht := hide ht
  have Hs := hide hs
  have Hix := hide hix
  have HM := hide hM
  have HL := hide hL
  have Hv := hide hv
  rw [← hL] at hl
  clear ht hs hix hM hL hv
  go_enter Tryz.func112, Tryz.ntmps112
  go_wp2_with fail
  refine (trimLeft0_any hu).mono ?_
  rintro e w' ⟨v, rfl, rfl, hvd⟩
  have hvs : v = s := Go.WideShapes.bytes_inj (by rw [hvd, Ht.out, Hs.out])
  subst hvs
  have hl2 : ¬ (1048576 : Int) < (L : Int) := by omega
  clear hvd
  go_wp2_with (at_make; refine wpList_make_row _ rfl _ _ 23 rfl 41 .u32 4 Tryz.underlying23 Tryz.infoU32 _ _ _ _ M M rfl rfl (by omega) (by omega) (Nat.le_refl _) (by omega) (by unfold maxLen; omega) ?_)
  intro w1 hr hbel hsz1
  go_wp2
  go_loopw [18] (fun i wr => ∃ (k : Nat) (zs : List Int), k ≤ L ∧ i = .int .i64 k ∧ zs.length = M ∧ FromRel ds zs k ∧ Row .u32 41 wr w'.heap.size zs ∧ Below w'.heap.size w' wr) (fun i _ => L - (intOf i).toNat)
  case atStart => exact ⟨0, List.replicate M 0, by omega, rfl, by simp, ⟨Nt.ok_replicate _, fun j _ => Nt.lb_replicate _ _, by rw [Nt.lb_replicate]; decide, by rw [Nt.val_replicate]; rfl⟩, hr, hbel⟩
  case round =>
    obtain ⟨k, zs, hk, rfl, hzl, hrel2, hrow, hbr⟩ := hrel
    have HR := hide hrel2
    have HZ := hide hzl
    clear hrel2 hzl hr hbel
    by_cases hkl : k < L
    · obtain ⟨q, hq⟩ : ∃ q, q = k / 4 := ⟨_, rfl⟩
      obtain ⟨r, hr4⟩ : ∃ r, r = k % 4 := ⟨_, rfl⟩
      obtain ⟨p, hp⟩ : ∃ p, p = L - 1 - k := ⟨_, rfl⟩
      have hqM : q < M := by have := HM.out; omega
      have g1 := hrow.cell (i := q) (by rw [HZ.out]; exact hqM)
      have hfz := hrow.frozen q
      have bd := hd.1 k
      have hor := (limb_or (x := Nt.lb zs q) (b := Nt.lb ds k) (r := r) ⟨(HR.out.1 q).1, by have h := HR.out.2.2.1; rw [← hq, ← hr4] at h; exact h⟩ bd (by omega)).1
      have hbn := (limb_or (x := Nt.lb zs q) (b := Nt.lb ds k) (r := r) ⟨(HR.out.1 q).1, by have h := HR.out.2.2.1; rw [← hq, ← hr4] at h; exact h⟩ bd (by omega)).2
      have hst := fromRel_step HR.out hq hr4 (by rw [HZ.out]; exact hqM) bd
      have hps : p < v.size := by omega
      have hx := Hix.out p hps
      rw [show L - 1 - p = k by omega] at hx
      have q1 : (k : Int) / 4 = (q : Int) := by omega
      have q2 : (L : Int) - 1 - (k : Int) = (p : Int) := by omega
      have q3 : (q : Int) < (M : Int) := by omega
      have q4 : (p : Int) < (L : Int) := by omega
      have q5 : (k : Int) % 4 = (r : Int) := by omega
      have hrb : r < 4 := by omega
      have HSt := hide hst
      clear hst hq hr4 hp
      match r, hrb with
      | 0, _ =>
        have e : Nb.pw 0 = 1 := by decide
        have e' : Nb.pw 1 = 256 := by decide
        rw [e, Int.mul_one] at hor
        rw [e, Int.mul_one] at HSt
        rw [e, e', Int.mul_one] at hbn
        clear e e'
        go_wp2
        go_region
        all_goals go_wp2
        all_goals go_roundw
        all_goals first
          | exact ⟨k + 1, zs.set q (Nt.lb zs q + Nt.lb ds k), by omega, by go_num, by rw [List.length_set]; exact HZ.out, HSt.out, hrow.set _ _, (hbr.setCell (Nat.le_refl _) _).drew⟩
          | (simp [intOf]; omega)
      | 1, _ =>
        have e : Nb.pw 1 = 256 := by decide
        have e' : Nb.pw 2 = 65536 := by decide
        rw [e] at hor
        rw [e] at HSt
        rw [e, e'] at hbn
        clear e e'
        go_wp2
        go_region
        all_goals go_wp2
        all_goals go_roundw
        all_goals first
          | exact ⟨k + 1, zs.set q (Nt.lb zs q + Nt.lb ds k * 256), by omega, by go_num, by rw [List.length_set]; exact HZ.out, HSt.out, hrow.set _ _, (hbr.setCell (Nat.le_refl _) _).drew⟩
          | (simp [intOf]; omega)
      | 2, _ =>
        have e : Nb.pw 2 = 65536 := by decide
        have e' : Nb.pw 3 = 16777216 := by decide
        rw [e] at hor
        rw [e] at HSt
        rw [e, e'] at hbn
        clear e e'
        go_wp2
        go_region
        all_goals go_wp2
        all_goals go_roundw
        all_goals first
          | exact ⟨k + 1, zs.set q (Nt.lb zs q + Nt.lb ds k * 65536), by omega, by go_num, by rw [List.length_set]; exact HZ.out, HSt.out, hrow.set _ _, (hbr.setCell (Nat.le_refl _) _).drew⟩
          | (simp [intOf]; omega)
      | 3, _ =>
        have e : Nb.pw 3 = 16777216 := by decide
        have e' : Nb.pw 4 = 4294967296 := by decide
        rw [e] at hor
        rw [e] at HSt
        rw [e, e'] at hbn
        clear e e'
        go_wp2
        go_region
        all_goals go_wp2
        all_goals go_roundw
        all_goals first
          | exact ⟨k + 1, zs.set q (Nt.lb zs q + Nt.lb ds k * 16777216), by omega, by go_num, by rw [List.length_set]; exact HZ.out, HSt.out, hrow.set _ _, (hbr.setCell (Nat.le_refl _) _).drew⟩
          | (simp [intOf]; omega)
      | r + 4, h => omega
    · have hke : k = L := by omega
      have hfin : Nt.val zs = n := by
        have h := HR.out.2.2.2
        rw [hke, HL.out] at h
        rw [h, ← Hv.out]; rfl
      have hcan : Nt.Canon zs := limbs_top hd HR.out.1 (by rw [HZ.out, HM.out, HL.out]) (by rw [hfin, Hv.out])
      have hnum : Num w'.heap.size wr (.slice (some ⟨w'.heap.size, 0, none⟩) M M) n ((ds.length + 3) / 4) := by
        refine ⟨zs, ⟨_, by rw [HZ.out], by rw [HZ.out]; unfold maxLen; omega, fun _ => ⟨w'.heap.size, [], rfl, Nat.le_refl _, by rw [List.append_nil]; exact hrow⟩⟩, hcan, hfin, by rw [HZ.out, HM.out, HL.out]; exact Nat.le_refl _⟩
      have HN := hide hnum
      clear hfin hcan hnum
      subst hke
      go_wp2
      go_ret2
      exact ⟨_, rfl, HN.out, hbr⟩

end Go.Proofs.YtejenbkhhcjeaaaGreatDoor

namespace Go.Proofs.YtejenbkhhcjeaaaGreatDoor
open Go.RowKit

set_option maxHeartbeats 1000000 in
theorem room_any {w : World} {n : Int} (h0 : 0 ≤ n) (h1 : n ≤ 100000000000000) :
    Calls Tryz.prog 167 #[.int .i64 n] w fun e w' => e = .returned (.int .i64 (n * 30103 / 100000 + 1)) ∧ w' = w := by
  go_enter Tryz.func167, Tryz.ntmps167
  go_wp2
  go_ret
  exact ⟨rfl, rfl⟩

set_option maxHeartbeats 1000000 in
theorem tens_none {w : World} {n : Int} (h1 : n ≤ 576) :
    Calls Tryz.prog 169 #[.int .i64 n] w fun e w' => e = .returned (.slice none 0 0) ∧ w' = w := by
  go_enter Tryz.func169, Tryz.ntmps169
  go_wp2
  go_ret
  exact ⟨rfl, rfl⟩

set_option maxHeartbeats 1000000 in
theorem lowest_any {w : World} {ao : Option Addr} {l c : Nat} :
    Calls Tryz.prog 190 #[.slice ao l c] w fun e w' => e = .returned (.func (.func 199) #[] #[.pointer (some ⟨w.heap.size + 2, 0, none⟩), .pointer (some ⟨w.heap.size, 0, none⟩), .pointer (some ⟨w.heap.size + 1, 0, none⟩)]) ∧
      w'.cell? ⟨w.heap.size, 0, none⟩ = some (.slice ao l c) ∧ w'.cell? ⟨w.heap.size + 1, 0, none⟩ = some (.int .u32 0) ∧ w'.cell? ⟨w.heap.size + 2, 0, none⟩ = some (.int .i64 0) ∧
      w'.frozen? ⟨w.heap.size, 0, none⟩ = false ∧ w'.frozen? ⟨w.heap.size + 1, 0, none⟩ = false ∧ w'.frozen? ⟨w.heap.size + 2, 0, none⟩ = false ∧ w'.heap.size = w.heap.size + 3 ∧ Below w.heap.size w w' := by
  go_enter Tryz.func190, Tryz.ntmps190
  go_wp2
  go_ret
  have n1 : ∀ o : Obj, (w.alloc o).heap.size = w.heap.size + 1 := fun o => by simp
  have n2 : ∀ o o' : Obj, ((w.alloc o).alloc o').heap.size = w.heap.size + 2 := fun o o' => by simp
  refine ⟨rfl, ?_, ?_, ?_, ?_, ?_, ?_, by simp, ((below_alloc w _).alloc (by simp) _).alloc (by simp; omega) _⟩
  · rw [World.cell?_alloc_past _ _ _ (by rw [n2]; omega), World.cell?_alloc_past _ _ _ (by rw [n1]; omega), World.cell?_alloc_at _ _ _ _ rfl]; rfl
  · rw [World.cell?_alloc_past _ _ _ (by rw [n2]; omega), World.cell?_alloc_at _ _ _ _ (by rw [n1])]; rfl
  · rw [World.cell?_alloc_at _ _ _ _ (by rw [n2])]; rfl
  · rw [World.frozen?_alloc_past _ _ _ (by rw [n2]; omega), World.frozen?_alloc_past _ _ _ (by rw [n1]; omega), World.frozen?_alloc_at _ _ _ _ rfl]
  · rw [World.frozen?_alloc_past _ _ _ (by rw [n2]; omega), World.frozen?_alloc_at _ _ _ _ (by rw [n1])]
  · rw [World.frozen?_alloc_at _ _ _ _ (by rw [n2])]

set_option maxRecDepth 20000 in
set_option maxHeartbeats 2000000 in
theorem low_c {w : World} {B gc ga gg ka : Nat} {va : Value} (h1 : w.cell? ⟨gc, 0, none⟩ = some (.int .i64 0)) (h2 : w.cell? ⟨ga, 0, none⟩ = some va) (h3 : w.cell? ⟨gg, 0, none⟩ = some (.int .u32 0))
    (f1 : w.frozen? ⟨gc, 0, none⟩ = false) (f2 : w.frozen? ⟨ga, 0, none⟩ = false) (f3 : w.frozen? ⟨gg, 0, none⟩ = false) (s1 : gc < w.heap.size) (s2 : ga < w.heap.size) (s3 : gg < w.heap.size)
    (d1 : gc ≠ ga) (d2 : gc ≠ gg) (d3 : ga ≠ gg) (ha : Arg w va 7 ka) (hka : ka ≤ 1099511627776) (b1 : B ≤ gc) (b2 : B ≤ ga) (b3 : B ≤ gg) :
    Calls Tryz.prog 199 #[.pointer (some ⟨gc, 0, none⟩), .pointer (some ⟨ga, 0, none⟩), .pointer (some ⟨gg, 0, none⟩)] w fun e w' => e = .returned (.int .u8 55) ∧ Below B w w' := by
  have hsm := small_yes (d := 1000000000) ha hka (by omega) (by omega)
  obtain ⟨zs0, ⟨ao, cap, rfl, _, _, _⟩, _⟩ := ha
  have t1 : ¬ ga = gc := fun e => d1 e.symm
  have t2 : ¬ gg = gc := fun e => d2 e.symm
  have t3 : ¬ gg = ga := fun e => d3 e.symm
  go_enter Tryz.func199, Tryz.ntmps199
  go_wp2_with fail
  refine hsm.mono ?_
  clear hsm
  rintro e w1 ⟨v, rfl, ⟨zs, ⟨vo, rfl, _, _⟩, _, _, _⟩, hb⟩
  have k1 := (hb.cell (p := ⟨gc, 0, none⟩) s1).trans h1
  have k2 := (hb.cell (p := ⟨ga, 0, none⟩) s2).trans h2
  have k3 := (hb.cell (p := ⟨gg, 0, none⟩) s3).trans h3
  have l1 := (hb.frozen (p := ⟨gc, 0, none⟩) s1).trans f1
  have l2 := (hb.frozen (p := ⟨ga, 0, none⟩) s2).trans f2
  have l3 := (hb.frozen (p := ⟨gg, 0, none⟩) s3).trans f3
  have r7 : (7 : Int) % 1000000000 = 7 := by decide
  go_wp2
  go_ret
  exact ⟨rfl, ((((((hb.mono (by omega)).setCell (p := ⟨ga, 0, none⟩) b2 _).setCell (p := ⟨gg, 0, none⟩) b3 _).setCell (p := ⟨gc, 0, none⟩) b1 _).setCell (p := ⟨gg, 0, none⟩) b3 _).setCell (p := ⟨gc, 0, none⟩) b1 _)⟩

set_option maxRecDepth 20000 in
set_option maxHeartbeats 2000000 in
theorem tell_c {w : World} {gt ka : Nat} {va : Value} (hr : Row .u8 5 w gt [0]) (ha : Arg w va 7 ka) (hka : ka ≤ 1099511627776) :
    Calls Tryz.prog 170 #[.slice (some ⟨gt, 0, none⟩) 1 1, va, .slice none 0 0] w fun e w' => e = .returned (.tuple #[]) ∧ Row .u8 5 w' gt [55] ∧ Below gt w w' := by
  have ha' := ha
  obtain ⟨zs0, ⟨ao, cap, rfl, _, _, _⟩, _⟩ := ha
  have hgt := hr.lt
  go_enter Tryz.func170, Tryz.ntmps170
  go_wp2_with fail
  refine lowest_any.mono ?_
  rintro e w1 ⟨rfl, h2, h3, h1, f2, f3, f1, hsz, hb⟩
  have hlow := low_c (w := w1) (B := w.heap.size) (gc := w.heap.size + 2) (ga := w.heap.size) (gg := w.heap.size + 1) h1 h2 h3 f1 f2 f3 (by omega) (by omega) (by omega) (by omega) (by omega) (by omega) (ha'.below hb) hka (by omega) (by omega) (by omega)
  clear h1 h2 h3 f1 f2 f3 ha'
  go_wp2
  refine wp_loop_rounds 2 ?_
  rw [rounds_succ]
  go_wp2_with fail
  with_reducible refine hlow.mono ?_
  clear hlow
  rintro e w2 ⟨rfl, hb2⟩
  have hr2 : Row .u8 5 w2 gt [0] := (hr.keeps hb).below hb2 hgt
  have hc0 : w2.cell? ⟨gt, 0, none⟩ = some (.int .u8 0) := hr2.cell (i := 0) (by simp)
  have hf0 := hr2.frozen 0
  have hbb : Below gt w w2 := ((hb.mono (by omega)).trans (hb2.mono (by omega)))
  go_wp2
  rw [rounds_succ]
  go_wp2
  refine bodyPost_ret (results_none rfl _ _ _) rfl ?_
  exact ⟨rfl, hr2.set 0 55, hbb.setCell (p := ⟨gt, 0, none⟩) (Nat.le_refl _) _⟩

set_option maxRecDepth 20000 in
set_option maxHeartbeats 2000000 in
theorem trimLeft_7 {w : World} :
    Calls Tryz.prog 158 #[.string ⟨#[55]⟩, .string ⟨#[48]⟩] w fun e w' => e = .returned (.string ⟨#[55]⟩) ∧ w' = w := by
  have hb : Calls Tryz.prog 180 #[.string ⟨#[55]⟩, .int .u8 48] w fun e w' => e = .returned (.string ⟨#[55]⟩) ∧ w' = w := by
    go_enter Tryz.func180, Tryz.ntmps180
    go_wp2
    refine wp_loop_rounds 1 ?_
    rw [rounds_succ]
    go_wp2
    go_ret
    exact ⟨rfl, rfl⟩
  go_enter Tryz.func158, Tryz.ntmps158
  go_wp2_with fail
  refine hb.mono ?_
  rintro e w' ⟨rfl, rfl⟩
  go_wp2
  go_ret
  exact ⟨rfl, rfl⟩

set_option maxRecDepth 20000 in
set_option maxHeartbeats 2000000 in
theorem digits_c {w : World} {va : Value} {ka : Nat} (ha : Arg w va 7 ka) (hka : ka ≤ 1099511627776) :
    Calls Tryz.prog 118 #[va] w fun e w' => e = .returned (.string ⟨#[55]⟩) ∧ Below w.heap.size w w' := by
  go_enter Tryz.func118, Tryz.ntmps118
  go_wp2_with fail
  refine (len_any ha hka).mono ?_
  rintro e w' ⟨k, rfl, hk, _, rfl⟩
  have hk3 : k = 3 := isLen_unique hk ⟨by decide, fun _ => by decide⟩
  subst hk3
  clear hk
  go_wp2_with fail
  refine (room_any (n := 3) (by omega) (by omega)).mono ?_
  rintro e w1 ⟨rfl, rfl⟩
  go_wp2_with (at_make; refine wpList_make_row _ rfl _ _ 73 rfl 5 .u8 1 Tryz.underlying73 Tryz.infoU8 _ _ _ _ 1 1 rfl rfl (by omega) (by omega) (Nat.le_refl _) (by omega) (by unfold maxLen; omega) ?_)
  intro w2 hr hbel hsz
  replace hr : Row .u8 5 w2 w1.heap.size [0] := hr
  go_wp2_with fail
  refine (tens_none (n := 1) (by omega)).mono ?_
  rintro e w3 ⟨rfl, rfl⟩
  go_wp2_with fail
  refine (tell_c hr (ha.below hbel) hka).mono ?_
  rintro e w4 ⟨rfl, hr4, hb4⟩
  have hcv := row_string (cap := 1) hr4
  have hs9 : strOfNums [55] = ⟨#[55]⟩ := rfl
  have l1 : ([55] : List Int).length = 1 := rfl
  rw [hs9, l1] at hcv
  go_wp2_with fail
  refine trimLeft_7.mono ?_
  rintro e w5 ⟨rfl, rfl⟩
  go_wp2
  go_ret
  exact ⟨rfl, hbel.trans hb4⟩

end Go.Proofs.YtejenbkhhcjeaaaGreatDoor

namespace Go.Proofs.YtejenbkhhcjeaaaGreatDoor
open Go.RowKit

set_option maxRecDepth 20000 in
set_option maxHeartbeats 4000000 in
theorem isNumber_c {w : World} :
    Calls Tryz.prog 166 #[.string ⟨#[52, 50, 57, 52, 57, 54, 55, 50, 57, 54]⟩] w fun e w' => e = .returned (.bool true) ∧ w' = w := by
  have c0 : ((({ data := #[52, 50, 57, 52, 57, 54, 55, 50, 57, 54] } : ByteArray)[0].toNat : Nat) : Int) = 52 := rfl
  have c1 : ((({ data := #[52, 50, 57, 52, 57, 54, 55, 50, 57, 54] } : ByteArray)[1].toNat : Nat) : Int) = 50 := rfl
  have c2 : ((({ data := #[52, 50, 57, 52, 57, 54, 55, 50, 57, 54] } : ByteArray)[2].toNat : Nat) : Int) = 57 := rfl
  have c3 : ((({ data := #[52, 50, 57, 52, 57, 54, 55, 50, 57, 54] } : ByteArray)[3].toNat : Nat) : Int) = 52 := rfl
  have c4 : ((({ data := #[52, 50, 57, 52, 57, 54, 55, 50, 57, 54] } : ByteArray)[4].toNat : Nat) : Int) = 57 := rfl
  have c5 : ((({ data := #[52, 50, 57, 52, 57, 54, 55, 50, 57, 54] } : ByteArray)[5].toNat : Nat) : Int) = 54 := rfl
  have c6 : ((({ data := #[52, 50, 57, 52, 57, 54, 55, 50, 57, 54] } : ByteArray)[6].toNat : Nat) : Int) = 55 := rfl
  have c7 : ((({ data := #[52, 50, 57, 52, 57, 54, 55, 50, 57, 54] } : ByteArray)[7].toNat : Nat) : Int) = 50 := rfl
  have c8 : ((({ data := #[52, 50, 57, 52, 57, 54, 55, 50, 57, 54] } : ByteArray)[8].toNat : Nat) : Int) = 57 := rfl
  have c9 : ((({ data := #[52, 50, 57, 52, 57, 54, 55, 50, 57, 54] } : ByteArray)[9].toNat : Nat) : Int) = 54 := rfl
  go_enter Tryz.func166, Tryz.ntmps166
  go_wp2
  refine wp_loop_rounds 11 ?_
  rw [rounds_succ]
  go_wp2
  rw [rounds_succ]
  go_wp2
  rw [rounds_succ]
  go_wp2
  rw [rounds_succ]
  go_wp2
  rw [rounds_succ]
  go_wp2
  rw [rounds_succ]
  go_wp2
  rw [rounds_succ]
  go_wp2
  rw [rounds_succ]
  go_wp2
  rw [rounds_succ]
  go_wp2
  rw [rounds_succ]
  go_wp2
  rw [rounds_succ]
  go_wp2
  go_ret
  exact ⟨rfl, rfl⟩

set_option maxRecDepth 20000 in
set_option maxHeartbeats 8000000 in
theorem leaf_c {w : World} :
    Calls Tryz.prog 188 #[.string ⟨#[52, 50, 57, 52, 57, 54, 55, 50, 57, 54]⟩] w fun e w' => ∃ v, e = .returned v ∧ Num w.heap.size w' v 4294967296 2 ∧ Below w.heap.size w w' := by
  have c0 : ((({ data := #[52, 50, 57, 52, 57, 54, 55, 50, 57, 54] } : ByteArray)[0].toNat : Nat) : Int) = 52 := rfl
  have c1 : ((({ data := #[52, 50, 57, 52, 57, 54, 55, 50, 57, 54] } : ByteArray)[1].toNat : Nat) : Int) = 50 := rfl
  have c2 : ((({ data := #[52, 50, 57, 52, 57, 54, 55, 50, 57, 54] } : ByteArray)[2].toNat : Nat) : Int) = 57 := rfl
  have c3 : ((({ data := #[52, 50, 57, 52, 57, 54, 55, 50, 57, 54] } : ByteArray)[3].toNat : Nat) : Int) = 52 := rfl
  have c4 : ((({ data := #[52, 50, 57, 52, 57, 54, 55, 50, 57, 54] } : ByteArray)[4].toNat : Nat) : Int) = 57 := rfl
  have c5 : ((({ data := #[52, 50, 57, 52, 57, 54, 55, 50, 57, 54] } : ByteArray)[5].toNat : Nat) : Int) = 54 := rfl
  have c6 : ((({ data := #[52, 50, 57, 52, 57, 54, 55, 50, 57, 54] } : ByteArray)[6].toNat : Nat) : Int) = 55 := rfl
  have c7 : ((({ data := #[52, 50, 57, 52, 57, 54, 55, 50, 57, 54] } : ByteArray)[7].toNat : Nat) : Int) = 50 := rfl
  have c8 : ((({ data := #[52, 50, 57, 52, 57, 54, 55, 50, 57, 54] } : ByteArray)[8].toNat : Nat) : Int) = 57 := rfl
  have c9 : ((({ data := #[52, 50, 57, 52, 57, 54, 55, 50, 57, 54] } : ByteArray)[9].toNat : Nat) : Int) = 54 := rfl
  have d0 : ((({ data := #[50, 57, 52, 57, 54, 55, 50, 57, 54] } : ByteArray)[0].toNat : Nat) : Int) = 50 := rfl
  have d1 : ((({ data := #[50, 57, 52, 57, 54, 55, 50, 57, 54] } : ByteArray)[1].toNat : Nat) : Int) = 57 := rfl
  have d2 : ((({ data := #[50, 57, 52, 57, 54, 55, 50, 57, 54] } : ByteArray)[2].toNat : Nat) : Int) = 52 := rfl
  have d3 : ((({ data := #[50, 57, 52, 57, 54, 55, 50, 57, 54] } : ByteArray)[3].toNat : Nat) : Int) = 57 := rfl
  have d4 : ((({ data := #[50, 57, 52, 57, 54, 55, 50, 57, 54] } : ByteArray)[4].toNat : Nat) : Int) = 54 := rfl
  have d5 : ((({ data := #[50, 57, 52, 57, 54, 55, 50, 57, 54] } : ByteArray)[5].toNat : Nat) : Int) = 55 := rfl
  have d6 : ((({ data := #[50, 57, 52, 57, 54, 55, 50, 57, 54] } : ByteArray)[6].toNat : Nat) : Int) = 50 := rfl
  have d7 : ((({ data := #[50, 57, 52, 57, 54, 55, 50, 57, 54] } : ByteArray)[7].toNat : Nat) : Int) = 57 := rfl
  have d8 : ((({ data := #[50, 57, 52, 57, 54, 55, 50, 57, 54] } : ByteArray)[8].toNat : Nat) : Int) = 54 := rfl
  have x1 : ({ data := #[52, 50, 57, 52, 57, 54, 55, 50, 57, 54] } : ByteArray).extract 1 10 = { data := #[50, 57, 52, 57, 54, 55, 50, 57, 54] } := rfl
  go_enter Tryz.func188, Tryz.ntmps188
  go_wp2
  refine wp_loop_rounds 3 ?_
  rw [rounds_succ]
  go_wp2
  refine wp_loop_rounds 2 ?_
  rw [rounds_succ]
  go_wp2
  rw [rounds_succ]
  go_wp2_with fail
  refine (mul_any (arg_nil _) (arg_one w (x := 1000000000) (by omega)) (by omega) (by omega)).mono ?_
  rintro e w1 ⟨v1, rfl, hn1, hb1⟩
  have hb01 := below_trans (below_alloc w _) hb1
  go_wp2_with fail
  refine (add_any (hn1.arg.below (below_alloc w1 _)) (arg_one w1 (x := 4) (by omega)) (by omega) (by omega)).mono ?_
  rintro e w2 ⟨v2, rfl, hn2, hb2⟩
  have hb02 := below_trans hb01 (below_trans (below_alloc w1 _) hb2)
  clear hn1 hb1 hb2 hb01
  go_wp2
  rw [rounds_succ]
  go_wp2
  refine wp_loop_rounds 10 ?_
  rw [rounds_succ]
  go_wp2
  rw [rounds_succ]
  go_wp2
  rw [rounds_succ]
  go_wp2
  rw [rounds_succ]
  go_wp2
  rw [rounds_succ]
  go_wp2
  rw [rounds_succ]
  go_wp2
  rw [rounds_succ]
  go_wp2
  rw [rounds_succ]
  go_wp2
  rw [rounds_succ]
  go_wp2
  rw [rounds_succ]
  go_wp2_with fail
  refine (mul_any (hn2.arg.below (below_alloc w2 _)) (arg_one w2 (x := 1000000000) (by omega)) (by omega) (by omega)).mono ?_
  rintro e w3 ⟨v3, rfl, hn3, hb3⟩
  have hb03 := below_trans hb02 (below_trans (below_alloc w2 _) hb3)
  go_wp2_with fail
  refine (add_any (hn3.arg.below (below_alloc w3 _)) (arg_one w3 (x := 294967296) (by omega)) (by omega) (by omega)).mono ?_
  rintro e w4 ⟨v4, rfl, hn4, hb4⟩
  have hb04 := below_trans hb03 (below_trans (below_alloc w3 _) hb4)
  have hv : ((0 : Int) * 1000000000 + 4) * 1000000000 + 294967296 = 4294967296 := by decide
  rw [hv] at hn4
  have hnum : Num w.heap.size w4 v4 4294967296 2 := (hn4.low (by have := hb03.size; simp; omega)).tight (by simp [Nt.pw])
  have HN := hide hnum
  clear hn2 hn3 hn4 hnum hb3 hb4 hb02 hb03
  have x2 : ({ data := #[50, 57, 52, 57, 54, 55, 50, 57, 54] } : ByteArray).extract 9 9 = { data := #[] } := rfl
  go_wp2
  rw [rounds_succ]
  go_wp2
  go_ret
  exact ⟨_, rfl, HN.out, hb04⟩

set_option maxRecDepth 20000 in
set_option maxHeartbeats 1000000 in
theorem number_c {w : World} :
    Calls Tryz.prog 168 #[.string ⟨#[52, 50, 57, 52, 57, 54, 55, 50, 57, 54]⟩, .slice none 0 0] w fun e w' => ∃ v, e = .returned v ∧ Num w.heap.size w' v 4294967296 2 ∧ Below w.heap.size w w' := by
  go_enter Tryz.func168, Tryz.ntmps168
  go_wp2_with fail
  refine leaf_c.mono ?_
  rintro e w1 ⟨v, rfl, hn, hb⟩
  go_wp2
  go_ret
  exact ⟨_, rfl, hn, hb⟩

set_option maxRecDepth 20000 in
set_option maxHeartbeats 2000000 in
theorem read_c {w : World} :
    Calls Tryz.prog 117 #[.string ⟨#[52, 50, 57, 52, 57, 54, 55, 50, 57, 54]⟩] w fun e w' => ∃ v, e = .returned (.tuple #[v, .bool true]) ∧ Num w.heap.size w' v 4294967296 2 ∧ Below w.heap.size w w' := by
  go_enter Tryz.func117, Tryz.ntmps117
  go_wp2_with fail
  refine isNumber_c.mono ?_
  rintro e w' ⟨rfl, rfl⟩
  go_wp2_with fail
  refine (room_any (n := 8388608) (by omega) (by omega)).mono ?_
  rintro e w' ⟨rfl, rfl⟩
  go_wp2_with fail
  refine (tens_none (n := 10) (by omega)).mono ?_
  rintro e w' ⟨rfl, rfl⟩
  go_wp2_with fail
  refine number_c.mono ?_
  rintro e w1 ⟨v, rfl, hn, hb⟩
  have hn2 := hn
  obtain ⟨zs, ⟨ao, rfl, _, _⟩, _, _, hk⟩ := hn
  have hk2 : ¬ (262144 : Int) < (zs.length : Int) := by omega
  have HN := hide hn2
  clear hn2
  go_wp2
  go_ret2
  exact ⟨_, rfl, HN.out, hb⟩

end Go.Proofs.YtejenbkhhcjeaaaGreatDoor

namespace Go.Proofs.YtejenbkhhcjeaaaGreatDoor
open Go.RowKit

/-- the greatest number that divides both -/
def gd (n m : Int) : Int := ((Nat.gcd n.toNat m.toNat : Nat) : Int)
theorem gd_zero {n : Int} (h : 0 ≤ n) : gd n 0 = n := by unfold gd; simp; omega
theorem gd_step {n m : Int} (hn : 0 ≤ n) (hm : 0 ≤ m) : gd n m = gd m (n % m) := by
  unfold gd
  obtain ⟨a, rfl⟩ := Int.eq_ofNat_of_zero_le hn
  obtain ⟨b, rfl⟩ := Int.eq_ofNat_of_zero_le hm
  have e : (((a : Int) % (b : Int))).toNat = a % b := by rw [← Int.natCast_emod]; exact Int.toNat_natCast _
  rw [e]
  simp only [Int.toNat_natCast]
  rw [Nat.gcd_comm a b, Nat.gcd_rec b a, Nat.gcd_comm]

theorem emod_toNat {x y : Int} (hy : 0 < y) : (x % y).toNat < y.toNat := by
  have h1 := Int.emod_lt_of_pos x hy
  have h2 := Int.emod_nonneg x (show y ≠ 0 by omega)
  omega

end Go.Proofs.YtejenbkhhcjeaaaGreatDoor

namespace Go.Proofs.YtejenbkhhcjeaaaGreatDoor
open Go.RowKit

/-- a list that was written out -/
theorem row_lit (w : World) (xs : List Int) : Row .u32 41 (w.alloc (.cells (xs.map (Value.int .u32)).toArray 41)) w.heap.size xs := by
  unfold Row
  rw [heap_alloc_new]
theorem num_lit (w : World) (xs : List Int) {n : Int} {k : Nat} (hc : Nt.Canon xs) (hv : Nt.val xs = n) (hk : xs.length = k) (hm : k ≤ 100) : Num w.heap.size (w.alloc (.cells (xs.map (Value.int .u32)).toArray 41)) (.slice (some ⟨w.heap.size, 0, none⟩) k k) n k := by
  subst hk
  exact ⟨xs, ⟨_, rfl, by unfold maxLen; omega, fun _ => ⟨w.heap.size, [], rfl, Nat.le_refl _, by rw [List.append_nil]; exact row_lit w xs⟩⟩, hc, hv, Nat.le_refl _⟩
theorem arg_lit (w : World) (xs : List Int) {n : Int} {k : Nat} (hc : Nt.Ok xs) (hv : Nt.val xs = n) (hk : xs.length = k) (hm : k ≤ 100) : Arg (w.alloc (.cells (xs.map (Value.int .u32)).toArray 41)) (.slice (some ⟨w.heap.size, 0, none⟩) k k) n k := by
  subst hk
  exact ⟨xs, ⟨_, _, rfl, Nat.le_refl _, by unfold maxLen; omega, fun _ => ⟨w.heap.size, 0, rfl, (row_lit w xs).lt, fun i hi => by rw [Nat.zero_add]; exact (row_lit w xs).cell hi⟩⟩, hc, hv, Nat.le_refl _⟩
theorem ok_list {xs : List Int} (h : ∀ x ∈ xs, 0 ≤ x ∧ x < 4294967296) : Nt.Ok xs := by
  intro i
  by_cases hi : i < xs.length
  · have e : Nt.lb xs i = xs[i] := by simp [Nt.lb, hi]
    rw [e]; exact h _ (List.getElem_mem hi)
  · rw [Nt.lb_out (by omega)]; omega

end Go.Proofs.YtejenbkhhcjeaaaGreatDoor

namespace Go.Proofs.YtejenbkhhcjeaaaGreatDoor
open Go.RowKit

theorem twin_arg {w : World} {va : Value} {n : Int} {k : Nat} (ha : Arg w va n k) (hk : k ≤ 1099511627776) :
    Calls Tryz.prog 21 #[va] w fun e w' => ∃ v, e = .returned v ∧ Arg w' v n k ∧ Below w.heap.size w w' := by
  obtain ⟨xs, hr, ho, hv, hl⟩ := ha
  refine (twin_any hr (by omega)).mono ?_
  rintro e w' ⟨v, rfl, ht, hb⟩
  exact ⟨v, rfl, ⟨xs, ht.reads, ho, hv, hl⟩, hb⟩

theorem isLen_zero : IsLen 0 0 := ⟨by decide, fun h => by omega⟩
theorem isLen_pos {n : Int} {k : Nat} (h : IsLen n k) (hn : 0 < n) : 0 < k := by
  rcases Nat.eq_zero_or_pos k with h0 | h0
  · subst h0; have h3 := h.1; simp only [p2] at h3; omega
  · exact h0
theorem sgn_self (n : Int) : sgn n n = 0 := by unfold sgn; simp

end Go.Proofs.YtejenbkhhcjeaaaGreatDoor

namespace Go.Proofs.YtejenbkhhcjeaaaGreatDoor
open Go.RowKit

end Go.Proofs.YtejenbkhhcjeaaaGreatDoor

namespace Go.Proofs.YtejenbkhhcjeaaaGreatDoor
open Go.RowKit

theorem nb_ok_cons {x : Int} {xs : List Int} : Nb.Ok (x :: xs) ↔ (0 ≤ x ∧ x < 256) ∧ Nb.Ok xs := by
  constructor
  · intro h
    exact ⟨by simpa [Nt.lb] using h 0, fun i => by simpa [Nt.lb] using h (i + 1)⟩
  · rintro ⟨h1, h2⟩ i
    cases i with
    | zero => simpa [Nt.lb] using h1
    | succ i => simpa [Nt.lb] using h2 i
theorem nb_ok_reverse {xs : List Int} (h : Nb.Ok xs) : Nb.Ok xs.reverse := by
  intro i
  by_cases hi : i < xs.length
  · rw [lb_reverse hi]; exact h _
  · rw [Nt.lb_out (by rw [List.length_reverse]; omega)]; omega
theorem nb_val_cons (x : Int) (xs : List Int) : Nb.val (x :: xs) = x + 256 * Nb.val xs := by
  have key : ∀ n, Nb.vt (x :: xs) (n + 1) = x + 256 * Nb.vt xs n := by
    intro n
    induction n with
    | zero => simp [Nb.vt, Nt.lb, Nb.pw]
    | succ n ih =>
      rw [Nb.vt_succ, ih, Nb.vt_succ, Nb.pw_succ]
      have e : Nt.lb (x :: xs) (n + 1) = Nt.lb xs n := by simp [Nt.lb]
      rw [e]
      grind
  show Nb.vt (x :: xs) (xs.length + 1) = _
  rw [key]; rfl
theorem u8_lt {x y : Int} (hx : 0 ≤ x ∧ x < 256) (hy : 0 ≤ y ∧ y < 256) : (UInt8.ofNat x.toNat < UInt8.ofNat y.toNat ↔ x < y) ∧ (UInt8.ofNat x.toNat = UInt8.ofNat y.toNat ↔ x = y) := by
  constructor
  · rw [UInt8.lt_iff_toNat_lt, UInt8.toNat_ofNat', UInt8.toNat_ofNat']; omega
  · rw [← UInt8.toNat_inj, UInt8.toNat_ofNat', UInt8.toNat_ofNat']; omega
theorem bytesLess_nums : ∀ {xs ys : List Int}, xs.length = ys.length → Nb.Ok xs → Nb.Ok ys → Op.bytesLess (xs.map fun n => UInt8.ofNat n.toNat) (ys.map fun n => UInt8.ofNat n.toNat) = decide (Nb.val xs.reverse < Nb.val ys.reverse)
  | [], [], _, _, _ => by simp [Op.bytesLess]
  | x :: xs, [], h, _, _ => by simp at h
  | [], y :: ys, h, _, _ => by simp at h
  | x :: xs, y :: ys, h, hx, hy => by
    have hl : xs.length = ys.length := by simpa using h
    obtain ⟨x1, x2⟩ := nb_ok_cons.1 hx
    obtain ⟨y1, y2⟩ := nb_ok_cons.1 hy
    obtain ⟨u1, u2⟩ := u8_lt x1 y1
    have ih := bytesLess_nums hl x2 y2
    simp only [List.map_cons, Op.bytesLess, List.reverse_cons, Nb.val_snoc, List.length_reverse]
    rw [ih, hl]
    have a := Nb.val_lt (nb_ok_reverse x2)
    have a0 := Nb.val_nonneg (nb_ok_reverse x2)
    have b := Nb.val_lt (nb_ok_reverse y2)
    have b0 := Nb.val_nonneg (nb_ok_reverse y2)
    rw [List.length_reverse] at a b
    rw [hl] at a
    have hP := Nb.pw_pos ys.length
    generalize Nb.pw ys.length = P at *
    generalize Nb.val xs.reverse = A at *
    generalize Nb.val ys.reverse = B at *
    rcases Int.lt_trichotomy x y with c | c | c
    · have h1 : (x + 1) * P ≤ y * P := Int.mul_le_mul_of_nonneg_right (by omega) (by omega)
      rw [Int.add_mul] at h1
      rw [decide_eq_true (show A + x * P < B + y * P by omega)]
      simp [u1.2 c]
    · subst c
      have : (A + x * P < B + x * P) ↔ A < B := by omega
      simp [this]
    · have h1 : (y + 1) * P ≤ x * P := Int.mul_le_mul_of_nonneg_right (by omega) (by omega)
      rw [Int.add_mul] at h1
      rw [decide_eq_false (show ¬ A + x * P < B + y * P by omega)]
      have n1 : ¬ (UInt8.ofNat x.toNat < UInt8.ofNat y.toNat) := fun h => by have := u1.1 h; omega
      have n2 : ¬ (UInt8.ofNat x.toNat = UInt8.ofNat y.toNat) := fun h => by have := u2.1 h; omega
      simp [n1, n2]

theorem bstr_one {n : Int} {s t : ByteArray} (hs : Bstr n s) (ht : Bstr n t) : s = t := by
  obtain ⟨ds, d1, d2, rfl⟩ := hs
  obtain ⟨es, e1, e2, rfl⟩ := ht
  rw [Nb.canon_unique d1 e1 (by rw [d2, e2])]
theorem bstr_toList {ds : List Int} : (strOfNums ds.reverse).toList = ds.reverse.map fun n => UInt8.ofNat n.toNat := by rw [ByteArray.toList_eq, strOfNums_data]

/-- a byte more behind -/
theorem bstr_more {A x : Int} {s : ByteArray} (hs : Bstr A s) (hx : 0 ≤ x ∧ x < 256) (hn : ¬ (A = 0 ∧ x = 0)) : Bstr (A * 256 + x) (s ++ strOfNums [x]) := by
  obtain ⟨ds, d1, d2, rfl⟩ := hs
  refine ⟨x :: ds, ⟨nb_ok_cons.2 ⟨hx, d1.1⟩, fun _ => ?_⟩, by rw [nb_val_cons, d2]; omega, ?_⟩
  · by_cases h : ds = []
    · subst h
      have hA : A = 0 := by rw [← d2]; rfl
      have hx0 : x ≠ 0 := fun e => hn ⟨hA, e⟩
      simpa [Nt.lb] using hx0
    · have h1 := d1.2 h
      have hp := List.length_pos_iff.2 h
      have e : Nt.lb (x :: ds) ((x :: ds).length - 1) = Nt.lb ds (ds.length - 1) := by
        obtain ⟨m, hm⟩ : ∃ m, ds.length = m + 1 := ⟨ds.length - 1, by omega⟩
        simp [Nt.lb, hm]
      rw [e]; exact h1
  · apply Go.WideShapes.bytes_inj
    rw [strOfNums_data, List.reverse_cons, List.map_append]
    simp [strOfNums]
theorem bstr_zero : Bstr 0 ⟨#[]⟩ := ⟨[], Nb.canon_nil, rfl, rfl⟩
/-- the first byte is not 0 -/
theorem bstr_first {A : Int} {s : ByteArray} (hs : Bstr A s) (h : 0 < s.size) : (((s[0]'h).toNat : Nat) : Int) ≠ 0 := by
  obtain ⟨ds, d1, d2, rfl⟩ := hs
  have hp : 0 < ds.length := by rw [strOfNums_size, List.length_reverse] at h; exact h
  have h2 := d1.2 (List.length_pos_iff.1 hp)
  rw [strOfNums_at h (by rw [lb_reverse hp]; exact d1.1 _), lb_reverse hp, Nat.sub_zero]
  exact h2
/-- noughts ahead say nothing -/
theorem bstr_drop {ds : List Int} (hd : Nb.Canon ds) (z : Nat) : (strOfNums (List.replicate z 0) ++ strOfNums ds.reverse).data.toList.dropWhile (· == 0) = (strOfNums ds.reverse).data.toList := by
  have e : (strOfNums (List.replicate z 0) ++ strOfNums ds.reverse).data.toList = List.replicate z 0 ++ (strOfNums ds.reverse).data.toList := by
    simp [strOfNums]
  rw [e]
  have h1 : ∀ z : Nat, (List.replicate z (0 : UInt8) ++ (strOfNums ds.reverse).data.toList).dropWhile (· == 0) = (strOfNums ds.reverse).data.toList.dropWhile (· == 0) := by
    intro z
    induction z with
    | zero => simp
    | succ z _ => rw [List.replicate_succ, List.cons_append, List.dropWhile_cons]; simp
  rw [h1]
  by_cases h : ds = []
  · subst h; rfl
  · have hp := List.length_pos_iff.2 h
    have h0 : 0 < (strOfNums ds.reverse).size := by rw [strOfNums_size, List.length_reverse]; exact hp
    have hf := bstr_first ⟨ds, hd, rfl, rfl⟩ h0
    have hu := bytes_uncons h0
    have hne : ¬ (strOfNums ds.reverse)[0] = 0 := fun e => hf (by rw [e]; rfl)
    rw [hu, List.dropWhile_cons]
    simp [hne]

end Go.Proofs.YtejenbkhhcjeaaaGreatDoor

namespace Go.Proofs.YtejenbkhhcjeaaaGreatDoor
open Go.RowKit

/-- bytes, the highest first, spell a number with no nought ahead -/
def BE (zs : List Int) (A : Int) : Prop := Nb.Canon zs.reverse ∧ Nb.val zs.reverse = A
theorem be_nil : BE [] 0 := ⟨Nb.canon_nil, rfl⟩
theorem be_zero {A : Int} (h : BE [] A) : A = 0 := h.2.symm
theorem be_more {zs : List Int} {A x : Int} (h : BE zs A) (hx : 0 ≤ x ∧ x < 256) (hn : ¬ (zs = [] ∧ x = 0)) : BE (zs ++ [x]) (A * 256 + x) := by
  unfold BE
  rw [List.reverse_append, List.reverse_singleton, List.singleton_append]
  refine ⟨⟨nb_ok_cons.2 ⟨hx, h.1.1⟩, fun _ => ?_⟩, by rw [nb_val_cons, h.2]; omega⟩
  by_cases hz : zs = []
  · have hx0 : x ≠ 0 := fun e => hn ⟨hz, e⟩
    rw [hz]
    simpa [Nt.lb] using hx0
  · have h1 := h.1.2 (by simpa using hz)
    have hp := List.length_pos_iff.2 hz
    have e : Nt.lb (x :: zs.reverse) ((x :: zs.reverse).length - 1) = Nt.lb zs.reverse (zs.reverse.length - 1) := by
      obtain ⟨m, hm⟩ : ∃ m, zs.length = m + 1 := ⟨zs.length - 1, by omega⟩
      simp [Nt.lb, hm]
    rw [e]; exact h1
theorem be_str {zs : List Int} {A : Int} (h : BE zs A) : Bstr A (strOfNums zs) := ⟨zs.reverse, h.1, h.2, by rw [List.reverse_reverse]⟩
theorem nt_val_cons (x : Int) (xs : List Int) : Nt.val (x :: xs) = x + 4294967296 * Nt.val xs := by
  have key : ∀ n, Nt.vt (x :: xs) (n + 1) = x + 4294967296 * Nt.vt xs n := by
    intro n
    induction n with
    | zero => simp [Nt.vt, Nt.lb, Nt.pw]
    | succ n ih =>
      rw [Nt.vt_succ, ih, Nt.vt_succ, Nt.pw_succ]
      have e : Nt.lb (x :: xs) (n + 1) = Nt.lb xs n := by simp [Nt.lb]
      rw [e]
      grind
  show Nt.vt (x :: xs) (xs.length + 1) = _
  rw [key]; rfl
theorem val_drop_succ {xs : List Int} {i : Nat} (h : i < xs.length) : Nt.val (xs.drop i) = Nt.lb xs i + 4294967296 * Nt.val (xs.drop (i + 1)) := by
  rw [List.drop_eq_getElem_cons h, nt_val_cons]
  simp [Nt.lb, h]
theorem own_grows {w0 w w' : World} {B : Nat} {E : TypeId} {v : Value} {n : Nat} {xs : List Value} (h : Below B w0 w) (hB : B ≤ w.heap.size) (ho : w.ownsRow B E 1 v n xs) (hg : w.grownBy w' v.ownBlock) : Below B w0 w' :=
  h.grown hg hB (fun k hk => (ho.lt k hk).1)
theorem cell_one (w : World) (E : TypeId) (k : IntKind) (x : Int) : Cells k (w.alloc (.cells #[.int k x] E)) (some ⟨w.heap.size, 0, none⟩) [x] := by
  intro _
  refine ⟨w.heap.size, 0, rfl, by simp, fun i hi => ?_⟩
  have hi0 : i = 0 := by simpa using hi
  subst hi0
  rw [World.cell?_alloc_at _ _ _ _ (by simp)]
  rfl
theorem txt_of {w : World} {v : Value} {zs : List Int} (h : Reads .u8 w v zs) (hn : 0 < zs.length) : (convert 73 9 v).run Tryz.prog w = .ok (.string (strOfNums zs)) w := by
  obtain ⟨ao, cap, rfl, h2, h3, h4⟩ := h
  obtain ⟨b, off, rfl, _, e3⟩ := h4 hn
  refine run_convert_bytes_arg w 73 5 Tryz.underlying73 Tryz.underlying5 b off zs.length cap zs rfl ?_ 9 Tryz.underlying9
  intro i hi
  rw [e3 i hi]; simp [Nt.lb]

theorem conv_none (w : World) : (convert 73 9 (.slice none 0 0)).run Tryz.prog w = .ok (.string (strOfNums [])) w :=
  run_convert_bytes_nil w 73 5 Tryz.underlying73 Tryz.underlying5 0 0 9 Tryz.underlying9

set_option maxRecDepth 20000 in
set_option maxHeartbeats 4000000 in
theorem rbytes_any {w : World} {va : Value} {n : Int} {k : Nat} (ha : Arg w va n k) (hk : k ≤ 1099511627776) :
    Calls Tryz.prog 34 #[va] w fun e w' => ∃ s, e = .returned (.string s) ∧ Bstr n s ∧ Below w.heap.size w w' := by
  go_enter Tryz.func34, Tryz.ntmps34
  go_wp2_with fail
  refine (rnorm_any ha hk).mono ?_
  rintro e w0 ⟨v, rfl, hn, hb0⟩
  obtain ⟨xs, hmade, hc, hv, hxk⟩ := hn
  obtain ⟨ao, cap, hve, hl1, hl2, hcel⟩ := hmade.reads
  subst hve
  have HV := hide hv
  clear hmade ha hv
  go_wp2
  obtain ⟨N, hN⟩ : ∃ N, xs.length = N := ⟨_, rfl⟩
  rw [hN]
  have hNb : N ≤ 1099511627776 := by omega
  go_loopg [3, 4] N (fun c out si wr => ∃ (i : Nat) (zs : List Int), i ≤ N ∧ c = i ∧ si = .int .i64 ((i : Int) - 1) ∧ BE zs (Nt.val (xs.drop i)) ∧ zs.length ≤ 4 * (N - i) ∧ (zs = [] → out = .slice none 0 0) ∧ wr.ownsRow w0.heap.size 5 1 out zs.length (zs.map (Value.int .u8)) ∧ Below w0.heap.size w0 wr)
  case atStart => exact ⟨N, [], Nat.le_refl _, rfl, rfl, by rw [← hN, List.drop_length]; exact be_nil, by simp, fun _ => rfl, World.ownsRow_nil _ _ _ _, Below.refl _ _⟩
  case round =>
    obtain ⟨i, zs, hil, hgi, rfl, hbe, hzl, hnil, hown, hbr⟩ := hrel
    rcases Nat.eq_zero_or_pos i with h0 | h0
    · subst h0
      rw [List.drop_zero, HV.out] at hbe
      have HBE := hide (be_str hbe)
      have hfin := hide (below_trans hb0 hbr)
      by_cases hz : zs = []
      · have ho := hnil hz
        subst hz ho
        have hcv := conv_none wr
        clear hbe hnil hown hbr
        go_wp2
        go_ret
        exact ⟨_, rfl, HBE.out, hfin.out⟩
      · have hcv := txt_of (reads_of_owns hown) (List.length_pos_iff.2 hz)
        clear hbe hnil hbr
        go_wp2
        go_ret
        exact ⟨_, rfl, HBE.out, hfin.out⟩
    · obtain ⟨j, rfl⟩ : ∃ j, i = j + 1 := ⟨i - 1, by omega⟩
      obtain ⟨b1, o1, rfl, hb1, hcell⟩ := (hcel.below hbr) (by omega)
      have g0 := hcell j (by omega)
      have bx := hc.1 j
      have hd := val_drop_succ (xs := xs) (i := j) (by omega)
      generalize hx0 : Nt.lb xs j = x0 at *
      generalize hV : Nt.val (xs.drop (j + 1)) = V at *
      have HD := hide hd
      have HBE := hide hbe
      have HNil := hide hnil
      rw [show ((j + 1 : Nat) : Int) - 1 = (j : Int) by omega]
      clear hcell hd hx0 hV hbe hnil
      go_wp2
      go_loopw [3, 5, 6] (fun out sx sk wq => ∃ (k : Nat) (x A : Int) (ys : List Int), k ≤ 4 ∧ sk = .int .i64 k ∧ sx = .int .u32 x ∧ 0 ≤ x ∧ x < 4294967296 ∧ A * 4294967296 + x = (V * 4294967296 + x0) * Nb.pw k ∧ BE ys A ∧ ys.length ≤ 4 * (N - (j + 1)) + k ∧ (ys = [] → out = .slice none 0 0) ∧ wq.ownsRow w0.heap.size 5 1 out ys.length (ys.map (Value.int .u8)) ∧ Below w0.heap.size w0 wq) (fun _ _ sk _ => 4 - (intOf sk).toNat)
      case atStart => exact ⟨0, x0, V, zs, by omega, rfl, rfl, bx.1, bx.2, by simp [Nb.pw], HBE.out, by omega, HNil.out, hown, hbr⟩
      case round =>
        clear hown hbr HBE HNil
        obtain ⟨k, x, A, ys, hk, rfl, rfl, x0', x1, heq, hbe, hyl, hnil, howq, hbq⟩ := hrel
        have HE := hide heq
        have HB := hide hbe
        have HNil := hide hnil
        clear heq hbe hnil
        by_cases hkl : k < 4
        · have hkl' : (k : Int) < 4 := by omega
          obtain ⟨b, hb⟩ : ∃ b, b = x / 16777216 := ⟨_, rfl⟩
          have hb0' : 0 ≤ b := by omega
          have hb1' : b < 256 := by omega
          obtain ⟨y, hy⟩ : ∃ y, y = x * 256 % 4294967296 := ⟨_, rfl⟩
          have hy2 : y = x * 256 - b * 4294967296 := by omega
          have hnx : (A * 256 + b) * 4294967296 + y = (V * 4294967296 + x0) * Nb.pw (k + 1) := by
            rw [Nb.pw_succ, hy2]
            have h := HE.out
            generalize (V * 4294967296 + x0) = T at *
            rw [show T * (256 * Nb.pw k) = 256 * (T * Nb.pw k) by grind, ← h]
            omega
          have HX := hide hnx
          have hsz := hbq.size
          clear hnx
          by_cases hcase : b = 0 ∧ ys = []
          · obtain ⟨hbz, hyz⟩ := hcase
            have ho := HNil.out hyz
            subst hyz ho
            have hA := be_zero HB.out
            have hbb : (x / 16777216 == 0) = true := by simp; omega
            have HF : Hid (BE [] (A * 256 + b)) := hide (by rw [hA, hbz]; exact be_nil)
            go_wp2
            go_roundw
            case rel => exact ⟨k + 1, y, A * 256 + b, [], by omega, by go_num, (by first | (rw [hy]; done) | (rw [hy]; exact congrArg _ (by omega))), by omega, by omega, HX.out, HF.out, by simp, fun _ => rfl, howq, hbq⟩
            case measure => simp [intOf]; omega
          · have HF : Hid (BE (ys ++ [b]) (A * 256 + b)) := hide (be_more HB.out ⟨hb0', hb1'⟩ (fun h => hcase ⟨h.2, h.1⟩))
            have hlen : ys.length ≤ 4 * 1099511627776 := by omega
            have hbx : x / 16777216 = b := hb.symm
            have hbw : b % 256 = b := by omega
            clear hb
            obtain ⟨ao', cap', hout, _⟩ := reads_of_owns howq
            subst hout
            by_cases hbz : b = 0
            · have hyp : (0 : Int) < (ys.length : Int) := by
                rcases Nat.eq_zero_or_pos ys.length with h | h
                · exact absurd ⟨hbz, List.eq_nil_of_length_eq_zero h⟩ hcase
                · omega
              subst hbz
              go_wp2_with (at_builtin; refine wpList_append_cells _ rfl _ _ 73 rfl w0.heap.size 5 .u8 1 Tryz.underlying73 Tryz.infoU8 _ ys.length ys rfl (howq.alloc _) (some ⟨wr.heap.size, 0, none⟩) 1 [0] rfl (cell_one _ _ _ _) (by unfold maxLen; simp; omega) (by simp; omega) (by simp; omega) ?_)
              intro v' w1 hown' hgrow
              have hb1 : Below w0.heap.size w0 w1 := own_grows (hbq.alloc hsz _) (by simp; omega) (howq.alloc _) hgrow
              have Hown := hide hown'
              clear hown' hgrow howq
              go_wp2
              go_roundw
              case rel => exact ⟨k + 1, y, A * 256 + 0, ys ++ [0], by omega, by go_num, (by first | (rw [hy]; done) | (rw [hy]; exact congrArg _ (by omega))), by omega, by omega, HX.out, HF.out, by simp; omega, fun h => by simp at h, by simpa using Hown.out, hb1⟩
              case measure => simp [intOf]; omega
            · have hbb : (b == 0) = false := by simp [hbz]
              go_wp2_with (at_builtin; refine wpList_append_cells _ rfl _ _ 73 rfl w0.heap.size 5 .u8 1 Tryz.underlying73 Tryz.infoU8 _ ys.length ys rfl (howq.alloc _) (some ⟨wr.heap.size, 0, none⟩) 1 [b] rfl (cell_one _ _ _ _) (by unfold maxLen; simp; omega) (by simp; omega) (by simp; omega) ?_)
              intro v' w1 hown' hgrow
              have hb1 : Below w0.heap.size w0 w1 := own_grows (hbq.alloc hsz _) (by simp; omega) (howq.alloc _) hgrow
              have Hown := hide hown'
              clear hown' hgrow howq
              go_wp2
              go_roundw
              case rel => exact ⟨k + 1, y, A * 256 + b, ys ++ [b], by omega, by go_num, (by first | (rw [hy]; done) | (rw [hy]; exact congrArg _ (by omega))), by omega, by omega, HX.out, HF.out, by simp; omega, fun h => by simp at h, by simpa using Hown.out, hb1⟩
              case measure => simp [intOf]; omega
        · have hke : k = 4 := by omega
          subst hke
          have hA : A = V * 4294967296 + x0 := by
            have h := HE.out
            rw [show Nb.pw 4 = 4294967296 by decide] at h
            omega
          have HF : Hid (BE ys (Nt.val (xs.drop j))) := hide (by rw [HD.out]; have h := HB.out; rw [hA] at h; rw [show x0 + 4294967296 * V = V * 4294967296 + x0 by omega]; exact h)
          clear hA
          go_wp2
          go_roundg j
          case measure => omega
          case rel => exact ⟨j, ys, by omega, rfl, by go_num, HF.out, by omega, HNil.out, howq, hbq⟩

end Go.Proofs.YtejenbkhhcjeaaaGreatDoor

namespace Go.Proofs.YtejenbkhhcjeaaaGreatDoor
open Go.RowKit

set_option maxRecDepth 20000 in
set_option maxHeartbeats 2000000 in
theorem low_d3 {w : World} {B gc ga gg ka : Nat} {va : Value} (h1 : w.cell? ⟨gc, 0, none⟩ = some (.int .i64 0)) (h2 : w.cell? ⟨ga, 0, none⟩ = some va) (h3 : w.cell? ⟨gg, 0, none⟩ = some (.int .u32 0))
    (f1 : w.frozen? ⟨gc, 0, none⟩ = false) (f2 : w.frozen? ⟨ga, 0, none⟩ = false) (f3 : w.frozen? ⟨gg, 0, none⟩ = false) (s1 : gc < w.heap.size) (s2 : ga < w.heap.size) (s3 : gg < w.heap.size)
    (d1 : gc ≠ ga) (d2 : gc ≠ gg) (d3 : ga ≠ gg) (ha : Arg w va 3 ka) (hka : ka ≤ 1099511627776) (b1 : B ≤ gc) (b2 : B ≤ ga) (b3 : B ≤ gg) :
    Calls Tryz.prog 199 #[.pointer (some ⟨gc, 0, none⟩), .pointer (some ⟨ga, 0, none⟩), .pointer (some ⟨gg, 0, none⟩)] w fun e w' => e = .returned (.int .u8 51) ∧ Below B w w' := by
  have hsm := small_yes (d := 1000000000) ha hka (by omega) (by omega)
  obtain ⟨zs0, ⟨ao, cap, rfl, _, _, _⟩, _⟩ := ha
  have t1 : ¬ ga = gc := fun e => d1 e.symm
  have t2 : ¬ gg = gc := fun e => d2 e.symm
  have t3 : ¬ gg = ga := fun e => d3 e.symm
  go_enter Tryz.func199, Tryz.ntmps199
  go_wp2_with fail
  refine hsm.mono ?_
  clear hsm
  rintro e w1 ⟨v, rfl, ⟨zs, ⟨vo, rfl, _, _⟩, _, _, _⟩, hb⟩
  have k1 := (hb.cell (p := ⟨gc, 0, none⟩) s1).trans h1
  have k2 := (hb.cell (p := ⟨ga, 0, none⟩) s2).trans h2
  have k3 := (hb.cell (p := ⟨gg, 0, none⟩) s3).trans h3
  have l1 := (hb.frozen (p := ⟨gc, 0, none⟩) s1).trans f1
  have l2 := (hb.frozen (p := ⟨ga, 0, none⟩) s2).trans f2
  have l3 := (hb.frozen (p := ⟨gg, 0, none⟩) s3).trans f3
  have r7 : (3 : Int) % 1000000000 = 3 := by decide
  go_wp2
  go_ret
  exact ⟨rfl, ((((((hb.mono (by omega)).setCell (p := ⟨ga, 0, none⟩) b2 _).setCell (p := ⟨gg, 0, none⟩) b3 _).setCell (p := ⟨gc, 0, none⟩) b1 _).setCell (p := ⟨gg, 0, none⟩) b3 _).setCell (p := ⟨gc, 0, none⟩) b1 _)⟩

set_option maxRecDepth 20000 in
set_option maxHeartbeats 2000000 in
theorem tell_d3 {w : World} {gt ka : Nat} {va : Value} (hr : Row .u8 5 w gt [0]) (ha : Arg w va 3 ka) (hka : ka ≤ 1099511627776) :
    Calls Tryz.prog 170 #[.slice (some ⟨gt, 0, none⟩) 1 1, va, .slice none 0 0] w fun e w' => e = .returned (.tuple #[]) ∧ Row .u8 5 w' gt [51] ∧ Below gt w w' := by
  have ha' := ha
  obtain ⟨zs0, ⟨ao, cap, rfl, _, _, _⟩, _⟩ := ha
  have hgt := hr.lt
  go_enter Tryz.func170, Tryz.ntmps170
  go_wp2_with fail
  refine lowest_any.mono ?_
  rintro e w1 ⟨rfl, h2, h3, h1, f2, f3, f1, hsz, hb⟩
  have hlow := low_d3 (w := w1) (B := w.heap.size) (gc := w.heap.size + 2) (ga := w.heap.size) (gg := w.heap.size + 1) h1 h2 h3 f1 f2 f3 (by omega) (by omega) (by omega) (by omega) (by omega) (by omega) (ha'.below hb) hka (by omega) (by omega) (by omega)
  clear h1 h2 h3 f1 f2 f3 ha'
  go_wp2
  refine wp_loop_rounds 2 ?_
  rw [rounds_succ]
  go_wp2_with fail
  with_reducible refine hlow.mono ?_
  clear hlow
  rintro e w2 ⟨rfl, hb2⟩
  have hr2 : Row .u8 5 w2 gt [0] := (hr.keeps hb).below hb2 hgt
  have hc0 : w2.cell? ⟨gt, 0, none⟩ = some (.int .u8 0) := hr2.cell (i := 0) (by simp)
  have hf0 := hr2.frozen 0
  have hbb : Below gt w w2 := ((hb.mono (by omega)).trans (hb2.mono (by omega)))
  go_wp2
  rw [rounds_succ]
  go_wp2
  refine bodyPost_ret (results_none rfl _ _ _) rfl ?_
  exact ⟨rfl, hr2.set 0 51, hbb.setCell (p := ⟨gt, 0, none⟩) (Nat.le_refl _) _⟩

set_option maxRecDepth 20000 in
set_option maxHeartbeats 2000000 in
theorem trimLeft_d3 {w : World} :
    Calls Tryz.prog 158 #[.string ⟨#[51]⟩, .string ⟨#[48]⟩] w fun e w' => e = .returned (.string ⟨#[51]⟩) ∧ w' = w := by
  have hb : Calls Tryz.prog 180 #[.string ⟨#[51]⟩, .int .u8 48] w fun e w' => e = .returned (.string ⟨#[51]⟩) ∧ w' = w := by
    go_enter Tryz.func180, Tryz.ntmps180
    go_wp2
    refine wp_loop_rounds 1 ?_
    rw [rounds_succ]
    go_wp2
    go_ret
    exact ⟨rfl, rfl⟩
  go_enter Tryz.func158, Tryz.ntmps158
  go_wp2_with fail
  refine hb.mono ?_
  rintro e w' ⟨rfl, rfl⟩
  go_wp2
  go_ret
  exact ⟨rfl, rfl⟩

set_option maxRecDepth 20000 in
set_option maxHeartbeats 2000000 in
theorem digits_d3 {w : World} {va : Value} {ka : Nat} (ha : Arg w va 3 ka) (hka : ka ≤ 1099511627776) :
    Calls Tryz.prog 118 #[va] w fun e w' => e = .returned (.string ⟨#[51]⟩) ∧ Below w.heap.size w w' := by
  go_enter Tryz.func118, Tryz.ntmps118
  go_wp2_with fail
  refine (len_any ha hka).mono ?_
  rintro e w' ⟨k, rfl, hk, _, rfl⟩
  have hk3 : k = 2 := isLen_unique hk ⟨by decide, fun _ => by decide⟩
  subst hk3
  clear hk
  go_wp2_with fail
  refine (room_any (n := 2) (by omega) (by omega)).mono ?_
  rintro e w1 ⟨rfl, rfl⟩
  go_wp2_with (at_make; refine wpList_make_row _ rfl _ _ 73 rfl 5 .u8 1 Tryz.underlying73 Tryz.infoU8 _ _ _ _ 1 1 rfl rfl (by omega) (by omega) (Nat.le_refl _) (by omega) (by unfold maxLen; omega) ?_)
  intro w2 hr hbel hsz
  replace hr : Row .u8 5 w2 w1.heap.size [0] := hr
  go_wp2_with fail
  refine (tens_none (n := 1) (by omega)).mono ?_
  rintro e w3 ⟨rfl, rfl⟩
  go_wp2_with fail
  refine (tell_d3 hr (ha.below hbel) hka).mono ?_
  rintro e w4 ⟨rfl, hr4, hb4⟩
  have hcv := row_string (cap := 1) hr4
  have hs9 : strOfNums [51] = ⟨#[51]⟩ := rfl
  have l1 : ([51] : List Int).length = 1 := rfl
  rw [hs9, l1] at hcv
  go_wp2_with fail
  refine trimLeft_d3.mono ?_
  rintro e w5 ⟨rfl, rfl⟩
  go_wp2
  go_ret
  exact ⟨rfl, hbel.trans hb4⟩

set_option maxRecDepth 20000 in
set_option maxHeartbeats 2000000 in
theorem low_d1 {w : World} {B gc ga gg ka : Nat} {va : Value} (h1 : w.cell? ⟨gc, 0, none⟩ = some (.int .i64 0)) (h2 : w.cell? ⟨ga, 0, none⟩ = some va) (h3 : w.cell? ⟨gg, 0, none⟩ = some (.int .u32 0))
    (f1 : w.frozen? ⟨gc, 0, none⟩ = false) (f2 : w.frozen? ⟨ga, 0, none⟩ = false) (f3 : w.frozen? ⟨gg, 0, none⟩ = false) (s1 : gc < w.heap.size) (s2 : ga < w.heap.size) (s3 : gg < w.heap.size)
    (d1 : gc ≠ ga) (d2 : gc ≠ gg) (d3 : ga ≠ gg) (ha : Arg w va 1 ka) (hka : ka ≤ 1099511627776) (b1 : B ≤ gc) (b2 : B ≤ ga) (b3 : B ≤ gg) :
    Calls Tryz.prog 199 #[.pointer (some ⟨gc, 0, none⟩), .pointer (some ⟨ga, 0, none⟩), .pointer (some ⟨gg, 0, none⟩)] w fun e w' => e = .returned (.int .u8 49) ∧ Below B w w' := by
  have hsm := small_yes (d := 1000000000) ha hka (by omega) (by omega)
  obtain ⟨zs0, ⟨ao, cap, rfl, _, _, _⟩, _⟩ := ha
  have t1 : ¬ ga = gc := fun e => d1 e.symm
  have t2 : ¬ gg = gc := fun e => d2 e.symm
  have t3 : ¬ gg = ga := fun e => d3 e.symm
  go_enter Tryz.func199, Tryz.ntmps199
  go_wp2_with fail
  refine hsm.mono ?_
  clear hsm
  rintro e w1 ⟨v, rfl, ⟨zs, ⟨vo, rfl, _, _⟩, _, _, _⟩, hb⟩
  have k1 := (hb.cell (p := ⟨gc, 0, none⟩) s1).trans h1
  have k2 := (hb.cell (p := ⟨ga, 0, none⟩) s2).trans h2
  have k3 := (hb.cell (p := ⟨gg, 0, none⟩) s3).trans h3
  have l1 := (hb.frozen (p := ⟨gc, 0, none⟩) s1).trans f1
  have l2 := (hb.frozen (p := ⟨ga, 0, none⟩) s2).trans f2
  have l3 := (hb.frozen (p := ⟨gg, 0, none⟩) s3).trans f3
  have r7 : (1 : Int) % 1000000000 = 1 := by decide
  go_wp2
  go_ret
  exact ⟨rfl, ((((((hb.mono (by omega)).setCell (p := ⟨ga, 0, none⟩) b2 _).setCell (p := ⟨gg, 0, none⟩) b3 _).setCell (p := ⟨gc, 0, none⟩) b1 _).setCell (p := ⟨gg, 0, none⟩) b3 _).setCell (p := ⟨gc, 0, none⟩) b1 _)⟩

set_option maxRecDepth 20000 in
set_option maxHeartbeats 2000000 in
theorem tell_d1 {w : World} {gt ka : Nat} {va : Value} (hr : Row .u8 5 w gt [0]) (ha : Arg w va 1 ka) (hka : ka ≤ 1099511627776) :
    Calls Tryz.prog 170 #[.slice (some ⟨gt, 0, none⟩) 1 1, va, .slice none 0 0] w fun e w' => e = .returned (.tuple #[]) ∧ Row .u8 5 w' gt [49] ∧ Below gt w w' := by
  have ha' := ha
  obtain ⟨zs0, ⟨ao, cap, rfl, _, _, _⟩, _⟩ := ha
  have hgt := hr.lt
  go_enter Tryz.func170, Tryz.ntmps170
  go_wp2_with fail
  refine lowest_any.mono ?_
  rintro e w1 ⟨rfl, h2, h3, h1, f2, f3, f1, hsz, hb⟩
  have hlow := low_d1 (w := w1) (B := w.heap.size) (gc := w.heap.size + 2) (ga := w.heap.size) (gg := w.heap.size + 1) h1 h2 h3 f1 f2 f3 (by omega) (by omega) (by omega) (by omega) (by omega) (by omega) (ha'.below hb) hka (by omega) (by omega) (by omega)
  clear h1 h2 h3 f1 f2 f3 ha'
  go_wp2
  refine wp_loop_rounds 2 ?_
  rw [rounds_succ]
  go_wp2_with fail
  with_reducible refine hlow.mono ?_
  clear hlow
  rintro e w2 ⟨rfl, hb2⟩
  have hr2 : Row .u8 5 w2 gt [0] := (hr.keeps hb).below hb2 hgt
  have hc0 : w2.cell? ⟨gt, 0, none⟩ = some (.int .u8 0) := hr2.cell (i := 0) (by simp)
  have hf0 := hr2.frozen 0
  have hbb : Below gt w w2 := ((hb.mono (by omega)).trans (hb2.mono (by omega)))
  go_wp2
  rw [rounds_succ]
  go_wp2
  refine bodyPost_ret (results_none rfl _ _ _) rfl ?_
  exact ⟨rfl, hr2.set 0 49, hbb.setCell (p := ⟨gt, 0, none⟩) (Nat.le_refl _) _⟩

set_option maxRecDepth 20000 in
set_option maxHeartbeats 2000000 in
theorem trimLeft_d1 {w : World} :
    Calls Tryz.prog 158 #[.string ⟨#[49]⟩, .string ⟨#[48]⟩] w fun e w' => e = .returned (.string ⟨#[49]⟩) ∧ w' = w := by
  have hb : Calls Tryz.prog 180 #[.string ⟨#[49]⟩, .int .u8 48] w fun e w' => e = .returned (.string ⟨#[49]⟩) ∧ w' = w := by
    go_enter Tryz.func180, Tryz.ntmps180
    go_wp2
    refine wp_loop_rounds 1 ?_
    rw [rounds_succ]
    go_wp2
    go_ret
    exact ⟨rfl, rfl⟩
  go_enter Tryz.func158, Tryz.ntmps158
  go_wp2_with fail
  refine hb.mono ?_
  rintro e w' ⟨rfl, rfl⟩
  go_wp2
  go_ret
  exact ⟨rfl, rfl⟩

set_option maxRecDepth 20000 in
set_option maxHeartbeats 2000000 in
theorem digits_d1 {w : World} {va : Value} {ka : Nat} (ha : Arg w va 1 ka) (hka : ka ≤ 1099511627776) :
    Calls Tryz.prog 118 #[va] w fun e w' => e = .returned (.string ⟨#[49]⟩) ∧ Below w.heap.size w w' := by
  go_enter Tryz.func118, Tryz.ntmps118
  go_wp2_with fail
  refine (len_any ha hka).mono ?_
  rintro e w' ⟨k, rfl, hk, _, rfl⟩
  have hk3 : k = 1 := isLen_unique hk ⟨by decide, fun _ => by decide⟩
  subst hk3
  clear hk
  go_wp2_with fail
  refine (room_any (n := 1) (by omega) (by omega)).mono ?_
  rintro e w1 ⟨rfl, rfl⟩
  go_wp2_with (at_make; refine wpList_make_row _ rfl _ _ 73 rfl 5 .u8 1 Tryz.underlying73 Tryz.infoU8 _ _ _ _ 1 1 rfl rfl (by omega) (by omega) (Nat.le_refl _) (by omega) (by unfold maxLen; omega) ?_)
  intro w2 hr hbel hsz
  replace hr : Row .u8 5 w2 w1.heap.size [0] := hr
  go_wp2_with fail
  refine (tens_none (n := 1) (by omega)).mono ?_
  rintro e w3 ⟨rfl, rfl⟩
  go_wp2_with fail
  refine (tell_d1 hr (ha.below hbel) hka).mono ?_
  rintro e w4 ⟨rfl, hr4, hb4⟩
  have hcv := row_string (cap := 1) hr4
  have hs9 : strOfNums [49] = ⟨#[49]⟩ := rfl
  have l1 : ([49] : List Int).length = 1 := rfl
  rw [hs9, l1] at hcv
  go_wp2_with fail
  refine trimLeft_d1.mono ?_
  rintro e w5 ⟨rfl, rfl⟩
  go_wp2
  go_ret
  exact ⟨rfl, hbel.trans hb4⟩


set_option maxRecDepth 20000 in
set_option maxHeartbeats 4000000 in
theorem isNumber_5 {w : World} :
    Calls Tryz.prog 166 #[.string ⟨#[53]⟩] w fun e w' => e = .returned (.bool true) ∧ w' = w := by
  have c0 : ((({ data := #[53] } : ByteArray)[0].toNat : Nat) : Int) = 53 := rfl
  go_enter Tryz.func166, Tryz.ntmps166
  go_wp2
  refine wp_loop_rounds 2 ?_
  rw [rounds_succ]
  go_wp2
  rw [rounds_succ]
  go_wp2
  go_ret
  exact ⟨rfl, rfl⟩

set_option maxRecDepth 20000 in
set_option maxHeartbeats 8000000 in
theorem leaf_5 {w : World} :
    Calls Tryz.prog 188 #[.string ⟨#[53]⟩] w fun e w' => ∃ v, e = .returned v ∧ Num w.heap.size w' v 5 2 ∧ Below w.heap.size w w' := by
  have c0 : ((({ data := #[53] } : ByteArray)[0].toNat : Nat) : Int) = 53 := rfl
  go_enter Tryz.func188, Tryz.ntmps188
  go_wp2
  refine wp_loop_rounds 2 ?_
  rw [rounds_succ]
  go_wp2
  refine wp_loop_rounds 2 ?_
  rw [rounds_succ]
  go_wp2
  rw [rounds_succ]
  go_wp2_with fail
  refine (mul_any (arg_nil _) (arg_one w (x := 1000000000) (by omega)) (by omega) (by omega)).mono ?_
  rintro e w1 ⟨v1, rfl, hn1, hb1⟩
  have hb01 := below_trans (below_alloc w _) hb1
  go_wp2_with fail
  refine (add_any (hn1.arg.below (below_alloc w1 _)) (arg_one w1 (x := 5) (by omega)) (by omega) (by omega)).mono ?_
  rintro e w2 ⟨v2, rfl, hn2, hb2⟩
  have hb02 := below_trans hb01 (below_trans (below_alloc w1 _) hb2)
  have hv : (0 : Int) * 1000000000 + 5 = 5 := by decide
  rw [hv] at hn2
  have hnum : Num w.heap.size w2 v2 5 2 := (hn2.low (by have := hb01.size; simp; omega)).tight (by simp [Nt.pw])
  have HN := hide hnum
  clear hn1 hb1 hb2 hb01 hn2 hnum hv
  have x2 : ({ data := #[53] } : ByteArray).extract 1 1 = { data := #[] } := rfl
  go_wp2
  rw [rounds_succ]
  go_wp2
  go_ret
  exact ⟨_, rfl, HN.out, hb02⟩

set_option maxRecDepth 20000 in
set_option maxHeartbeats 1000000 in
theorem number_5 {w : World} :
    Calls Tryz.prog 168 #[.string ⟨#[53]⟩, .slice none 0 0] w fun e w' => ∃ v, e = .returned v ∧ Num w.heap.size w' v 5 2 ∧ Below w.heap.size w w' := by
  go_enter Tryz.func168, Tryz.ntmps168
  go_wp2_with fail
  refine leaf_5.mono ?_
  rintro e w1 ⟨v, rfl, hn, hb⟩
  go_wp2
  go_ret
  exact ⟨_, rfl, hn, hb⟩

set_option maxRecDepth 20000 in
set_option maxHeartbeats 2000000 in
theorem read_5 {w : World} :
    Calls Tryz.prog 117 #[.string ⟨#[53]⟩] w fun e w' => ∃ v, e = .returned (.tuple #[v, .bool true]) ∧ Num w.heap.size w' v 5 2 ∧ Below w.heap.size w w' := by
  go_enter Tryz.func117, Tryz.ntmps117
  go_wp2_with fail
  refine isNumber_5.mono ?_
  rintro e w' ⟨rfl, rfl⟩
  go_wp2_with fail
  refine (room_any (n := 8388608) (by omega) (by omega)).mono ?_
  rintro e w' ⟨rfl, rfl⟩
  go_wp2_with fail
  refine (tens_none (n := 1) (by omega)).mono ?_
  rintro e w' ⟨rfl, rfl⟩
  go_wp2_with fail
  refine number_5.mono ?_
  rintro e w1 ⟨v, rfl, hn, hb⟩
  have hn2 := hn
  obtain ⟨zs, ⟨ao, rfl, _, _⟩, _, _, hk⟩ := hn
  have hk2 : ¬ (262144 : Int) < (zs.length : Int) := by omega
  have HN := hide hn2
  clear hn2
  go_wp2
  go_ret2
  exact ⟨_, rfl, HN.out, hb⟩

end Go.Proofs.YtejenbkhhcjeaaaGreatDoor
