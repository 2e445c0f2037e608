/- whole.FromTwos, for texts of less than 1048576 bytes -/
import Derived.Test.YtmpdkeafbjibpaaDoorTwos
import Derived.Test.YtmpdkeafbjibpaaDoorQFrom
import Derived.Laws.IdiomStrings
namespace Go.Proofs.YtmpdkeafbjibpaaDoor
open Go.RowKit

theorem canon_split : ∀ (n : Nat) (es : List Int), es.length = n → Nb.Ok es → ∃ ds z, es = ds ++ List.replicate z 0 ∧ Nb.Canon ds
  | 0, es, hl, _ => ⟨[], 0, by simp [List.eq_nil_of_length_eq_zero hl], Nb.canon_nil⟩
  | n + 1, es, hl, ho => by
    rcases List.eq_nil_or_concat es with h | ⟨l, b, h⟩
    · subst h; simp at hl
    · rw [List.concat_eq_append] at h
      subst h
      have hll : l.length = n := by simpa using hl
      have lb_l : ∀ i, i < l.length → Nt.lb (l ++ [b]) i = Nt.lb l i := fun i hi => by simp [Nt.lb, List.getElem?_append_left hi]
      have lb_b : Nt.lb (l ++ [b]) l.length = b := by simp [Nt.lb]
      by_cases hb : b = 0
      · obtain ⟨ds, z, h1, h2⟩ := canon_split n l hll (fun i => by
          by_cases hi : i < l.length
          · rw [← lb_l i hi]; exact ho i
          · rw [Nt.lb_out (by omega)]; omega)
        refine ⟨ds, z + 1, ?_, h2⟩
        rw [h1, hb, List.append_assoc]
        congr 1
        rw [List.replicate_succ']
      · exact ⟨l ++ [b], 0, by simp, ho, fun _ => by rw [show (l ++ [b]).length - 1 = l.length by simp, lb_b]; exact hb⟩

/-- the first byte is not 0 -/
theorem nums_first {ds : List Int} (d1 : Nb.Canon ds) (h : 0 < (strOfNums ds.reverse).size) : ((((strOfNums ds.reverse)[0]'h).toNat : Nat) : Int) ≠ 0 := by
  have hp : 0 < ds.length := by rw [strOfNums_size, List.length_reverse] at h; exact h
  have h2 := d1.2 (List.length_pos_iff.1 hp)
  rw [strOfNums_at h (by rw [lb_reverse hp]; exact d1.1 _), lb_reverse hp, Nat.sub_zero]
  exact h2
/-- noughts ahead say nothing -/
theorem nums_drop0 {ds : List Int} (hd : Nb.Canon ds) (z : Nat) : (strOfNums (List.replicate z 0) ++ strOfNums ds.reverse).data.toList.dropWhile (· == 0) = (strOfNums ds.reverse).data.toList := by
  have e : (strOfNums (List.replicate z 0) ++ strOfNums ds.reverse).data.toList = List.replicate z 0 ++ (strOfNums ds.reverse).data.toList := by
    simp [strOfNums]
  rw [e]
  have h1 : ∀ z : Nat, (List.replicate z (0 : UInt8) ++ (strOfNums ds.reverse).data.toList).dropWhile (· == 0) = (strOfNums ds.reverse).data.toList.dropWhile (· == 0) := by
    intro z
    induction z with
    | zero => simp
    | succ z _ => rw [List.replicate_succ, List.cons_append, List.dropWhile_cons]; simp
  rw [h1]
  by_cases h : ds = []
  · subst h; rfl
  · have hp := List.length_pos_iff.2 h
    have h0 : 0 < (strOfNums ds.reverse).size := by rw [strOfNums_size, List.length_reverse]; exact hp
    have hf := nums_first hd h0
    have hu := bytes_uncons h0
    have hne : ¬ (strOfNums ds.reverse)[0] = 0 := fun e => hf (by rw [e]; rfl)
    rw [hu, List.dropWhile_cons]
    simp [hne]

theorem nums_drop {es : List Int} (ho : Nb.Ok es) : ∃ ds, Nb.Canon ds ∧ Nb.val ds = Nb.val es ∧ ds.length ≤ es.length ∧ (strOfNums es.reverse).data.toList.dropWhile (· == 0) = (strOfNums ds.reverse).data.toList := by
  obtain ⟨ds, z, rfl, hc⟩ := canon_split _ es rfl ho
  refine ⟨ds, hc, pad_val.symm, by simp, ?_⟩
  rw [← nums_drop0 hc z, List.reverse_append, List.reverse_replicate]
  congr 1
  simp [strOfNums]

theorem bytes_full {s : ByteArray} (h : 0 < s.size) : s.toList.isEmpty = false := by
  rw [ByteArray.toList_eq]
  cases hl : s.data.toList with
  | nil =>
    exfalso
    have h1 : s.data.size = 0 := by rw [← Array.length_toList, hl]; rfl
    have h2 : s.size = s.data.size := rfl
    omega
  | cons _ _ => rfl
theorem nt_pad_val {l : List Int} {z : Nat} : Nt.val (l ++ List.replicate z 0) = Nt.val l := by
  have h1 : Nt.val (l ++ List.replicate z 0) = Nt.vt l (l.length + z) := by
    show Nt.vt _ _ = _
    rw [List.length_append, List.length_replicate]
    exact Nt.vt_congr (fun i _ => lb_tail0)
  rw [h1, Nt.vt_out (by omega)]
theorem nt_pad_ok {l : List Int} {z : Nat} (h : Nt.Ok l) : Nt.Ok (l ++ List.replicate z 0) := fun i => by rw [lb_tail0]; exact h i
/-- bytes that lie in a block from its start on -/
def Seg (w : World) (g : Nat) (zs : List Int) : Prop := ∀ i, i < zs.length → w.cell? ⟨g, i, none⟩ = some (.int .u8 (Nt.lb zs i)) ∧ w.frozen? ⟨g, i, none⟩ = false
theorem Seg.set {w : World} {g : Nat} {zs : List Int} (h : Seg w g zs) {i : Nat} (hi : i < zs.length) (v : Int) : Seg (w.setCell ⟨g, i, none⟩ (.int .u8 v)) g (zs.set i v) := by
  intro j hj
  rw [List.length_set] at hj
  refine ⟨?_, by simpa using (h j hj).2⟩
  by_cases e : i = j
  · subst e
    rw [World.cell?_setCell_same _ _ _ (h i hi).1, Nt.lb_set_eq hi]
  · rw [World.cell?_setCell_other _ _ _ _ (by intro e'; injection e' with _ e' _; exact e e'), Nt.lb_set_ne (by omega)]
    exact (h j hj).1
set_option maxHeartbeats 2000000 in
theorem turnOver_seg {w : World} {g N C : Nat} {zs : List Int} (hr : Seg w g zs) (hl : zs.length = N) (ho : Nb.Ok zs) (hN : N ≤ 1099511627776) :
    Calls Tryd.prog 38 #[.slice (some ⟨g, 0, none⟩) N C] w fun e w' => e = .returned (.tuple #[]) ∧ Seg w' g (flip zs) ∧ Below g w w' := by
  have HL := hide hl
  clear hl
  go_enter Tryd.func38, Tryd.ntmps38
  go_wp2
  go_loopw [5] (fun i wr => ∃ (k : Nat) (cur : List Int), k ≤ N ∧ i = .int .i64 k ∧ cur.length = zs.length ∧ cur.take k = (flip zs).take k ∧ (∀ i, k ≤ i → Nt.lb cur i = Nt.lb zs i) ∧ Seg wr g cur ∧ Below g w wr) (fun i _ => N - (intOf i).toNat)
  case atStart => exact ⟨0, zs, by omega, rfl, rfl, by simp, fun _ _ => rfl, hr, Below.refl _ _⟩
  case round =>
    obtain ⟨k, cur, hk, rfl, hcl, hct, hcr, hrow, hbr⟩ := hrel
    have hkk := hcr k (Nat.le_refl _)
    have HA := hide (And.intro hcl (And.intro hct hcr))
    clear hcl hct hcr hr
    by_cases hkN : k < N
    · have hkc : k < cur.length := by have := HA.out.1; have := HL.out; omega
      have g1 := (hrow k hkc).1
      have hfz := (hrow k hkc).2
      have HKC := hide hkc
      clear hkc
      have bk := ho k
      rw [hkk] at g1
      clear hkk
      have b0 : 0 ≤ Nt.lb zs k := bk.1
      have b1 : Nt.lb zs k < 256 := bk.2
      have hfl := hide (flip8 b0 b1)
      go_wp2
      rw [hfl.out]
      go_roundw
      case rel => 
        have hstep := flip_set HA.out.1 (by have := HL.out; omega) HA.out.2.1 HA.out.2.2 (y := 255 - Nt.lb zs k) rfl
        exact ⟨k + 1, cur.set k (255 - Nt.lb zs k), by omega, by go_num, by rw [List.length_set, HA.out.1], hstep.1, hstep.2, hrow.set HKC.out _, hbr.setCell (p := ⟨g, k, none⟩) (Nat.le_refl _) _⟩
      case measure => simp [intOf]; omega
    · go_wp2
      go_returns
      refine ⟨rfl, ?_, hbr⟩
      have h1 := HA.out.1
      have h2 := HA.out.2.1
      have h3 := HL.out
      have : cur = flip zs := by
        rw [List.take_of_length_le (by omega), List.take_of_length_le (by rw [flip_length]; omega)] at h2
        exact h2
      rw [← this]
      exact hrow

set_option maxRecDepth 20000 in
set_option maxHeartbeats 4000000 in
theorem natural_any {w : World} {es : List Int} {s : ByteArray} {N : Nat} (ho : Nb.Ok es) (hs : s = strOfNums es.reverse) (hN : es.length = N) (hl : N < 1048576) :
    Calls Tryd.prog 39 #[.string s] w fun e w' => ∃ v, e = .returned v ∧ Num w.heap.size w' v (Nb.val es) ((N + 3) / 4) ∧ Below w.heap.size w w' := by
  obtain ⟨M, hM⟩ : ∃ M, M = (N + 3) / 4 := ⟨_, rfl⟩
  have j1 : ((N : Int) + 3) / 4 = (M : Int) := by omega
  have hsz : s.size = N := by rw [hs, strOfNums_size, List.length_reverse, hN]
  obtain ⟨ds, d1, d2, d3, d4⟩ := nums_drop ho
  rw [← hs] at d4
  have HD := hide (And.intro d1 (And.intro d2 (And.intro d3 d4)))
  have HM := hide hM
  have HN := hide hN
  have HS := hide hs
  rw [← hM]
  clear d1 d2 d3 d4 hM hN hs ho
  go_enter Tryd.func39, Tryd.ntmps39
  go_wp2_with (at_make; refine wpList_make_row _ rfl _ _ 23 rfl 59 .u32 4 Tryd.underlying23 Tryd.infoU32 _ _ _ _ M M rfl rfl (by omega) (by omega) (Nat.le_refl _) (by have := HM.out; omega) (by have := HM.out; unfold maxLen; omega) ?_)
  intro w1 hr hbel hsz1
  go_wp2
  go_loopw [0, 4] (fun sv at' wr => ((sv = .string s ∧ at' = .int .i64 0 ∧ 0 < N ∧ Row .u32 59 wr w.heap.size (List.replicate M 0)) ∨ (sv = .string ⟨#[]⟩ ∧ (∃ t : Int, at' = .int .i64 t) ∧ ∃ zs, Nt.Ok zs ∧ zs.length = M ∧ Nt.val zs = Nb.val es ∧ Row .u32 59 wr w.heap.size zs)) ∧ Below w.heap.size w wr) (fun sv _ _ => match sv with | .string b => b.size | _ => 0)
  case atStart =>
    refine ⟨?_, hbel⟩
    by_cases h0 : N = 0
    · right
      have e1 : es = [] := List.eq_nil_of_length_eq_zero (by rw [HN.out]; exact h0)
      have e2 : s = ⟨#[]⟩ := by rw [HS.out, e1]; rfl
      exact ⟨by rw [e2], ⟨0, rfl⟩, List.replicate M 0, Nt.ok_replicate _, by simp, by rw [Nt.val_replicate, e1]; rfl, hr⟩
    · left
      exact ⟨rfl, rfl, by omega, hr⟩
  case round =>
    obtain ⟨hrel, hbr⟩ := hrel
    clear hr hbel
    rcases hrel with ⟨rfl, rfl, hN0, hrow⟩ | ⟨rfl, ⟨t, rfl⟩, zs, hzo, hzl, hzv, hrow⟩
    · have hne : ¬ s = ⟨#[]⟩ := fun e => by rw [e] at hsz; simp [ByteArray.size] at hsz; omega
      have hemp : s.toList.isEmpty = false := bytes_full (by omega)
      have hex : s.extract 0 N = s := by rw [← hsz]; exact ByteArray.extract_zero_size
      have hmx : ¬ (0 : Int) ≤ (N : Int) - 1048576 := by omega
      clear hne
      go_wp2_with fail
      with_reducible refine (qfrom_any HD.out.1 rfl (by omega) (by have := HD.out.2.2.1; have := HN.out; omega) HD.out.2.2.2).mono ?_
      rintro e w2 ⟨pv, rfl, ⟨ps, hm, hpc, hpv, hpl⟩, kb⟩
      obtain ⟨ao, cap, rfl, r1, r2, hcell⟩ := hm.reads
      have hplM : ps.length ≤ M := by have := HD.out.2.2.1; have := HN.out; have := HM.out; omega
      have hr2 := hrow.keeps kb
      have hb2 := below_trans hbr kb
      obtain ⟨ls, hls⟩ : ∃ ls, (List.replicate M (0 : Int)).take 0 ++ (ps ++ (List.replicate M (0 : Int)).drop (0 + ps.length)) = ls := ⟨_, rfl⟩
      have hlsF : Nt.Ok ls ∧ ls.length = M ∧ Nt.val ls = Nb.val es := by
        rw [← hls, List.take_zero, List.nil_append, Nat.zero_add, List.drop_replicate]
        exact ⟨nt_pad_ok hpc.1, by rw [List.length_append, List.length_replicate]; omega, by rw [nt_pad_val, hpv, HD.out.2.1]⟩
      have HF := hide hlsF
      have HLS := hide hls
      have HC := hide hcell
      have HR2 := hide hr2
      clear hm hpc hpv hpl hrow hbr kb hls hlsF hcell hr2
      go_wp2_with (refine wpList_copy_row rfl (.tmp 30) (.tmp 31) rfl (some ⟨w.heap.size, 0, none⟩) ao M M ps.length cap rfl rfl w.heap.size 0 (List.replicate M 0) ps HR2.out (fun _ => rfl) HC.out rfl (by omega) (by rw [List.length_replicate]; omega) w hb2 ls HLS.out ?_)
      intro w3 hr3 hb3
      have HR3 := hide hr3
      clear hr3 HR2 HC HLS hb2
      go_wp2
      go_roundw
      case rel => exact ⟨Or.inr ⟨rfl, ⟨_, rfl⟩, ls, HF.out.1, HF.out.2.1, HF.out.2.2, HR3.out⟩, hb3⟩
      case measure => (show (0 : Nat) < s.size; omega)
    · have HF := hide (And.intro hzo (And.intro hzl hzv))
      have hmd := hrow.made (Nat.le_refl _) (n := M) (by omega) (by have := HM.out; unfold maxLen; omega)
      have harg : Arg wr (.slice (some ⟨w.heap.size, 0, none⟩) M M) (Nb.val es) M := ⟨zs, by have h := hmd.reads; rw [List.take_of_length_le (by omega)] at h; exact h, hzo, hzv, by omega⟩
      have HA := hide harg
      clear hzo hzl hzv hmd harg
      go_wp2_with fail
      with_reducible refine (norm_any HA.out (by have := HM.out; omega)).mono ?_
      rintro e w2 ⟨v, rfl, hV, kb⟩
      have HV := hide (hV.low hbr.size)
      clear hV
      go_wp2
      go_ret
      exact ⟨_, rfl, HV.out, below_trans hbr kb⟩

theorem Num.form' {B : Nat} {w : World} {v : Value} {n : Int} {k : Nat} (h : Num B w v n k) : ∃ ao L, v = .slice ao L L := by
  obtain ⟨zs, ⟨ao, rfl, _⟩, _⟩ := h
  exact ⟨ao, _, rfl⟩
/-- the number of bytes of two's complement, the lowest first -/
def twv (es : List Int) : Int := if 128 ≤ Nt.lb es (es.length - 1) then Nb.val es - Nb.pw es.length else Nb.val es

theorem seg_bytes {w : World} {es : List Int} (ho : Nb.Ok es) (C : Nat) (x : Nat × Nat) (hx : es.length ≤ x.1) : Seg (w.drew.alloc (.cells (bytesRow (strOfNums es) C) 5 x)) w.heap.size es := by
  intro i hi
  have hb : (w.drew.alloc (.cells (bytesRow (strOfNums es) C) 5 x)).heap[w.heap.size]? = some (.cells (bytesRow (strOfNums es) C) 5 x) := by
    show (w.heap.push _)[w.heap.size]? = _
    simp
  have hv := ho i
  have e : Nt.lb es i = es[i] := by simp [Nt.lb, hi]
  rw [e] at hv ⊢
  constructor
  · simp only [World.cell?, hb]
    simp [bytesRow, strOfNums, hi, Array.getElem?_append]
    omega
  · simp only [World.frozen?, hb]
    simp
    omega

set_option maxRecDepth 20000 in
set_option maxHeartbeats 4000000 in
theorem fromtwos_any {w : World} {es : List Int} {s : ByteArray} {N : Nat} (ho : Nb.Ok es) (hs : s = strOfNums es.reverse) (hN : es.length = N) (hl : N < 1048576) :
    Calls Tryd.prog 20 #[.string s] w fun e w' => ∃ v, e = .returned v ∧ WNum w.heap.size w' v (twv es) ((N + 3) / 4 + 3) ∧ Below w.heap.size w w' := by
  have hsz : s.size = N := by rw [hs, strOfNums_size, List.length_reverse, hN]
  have HO := hide ho
  have HN := hide hN
  have HS := hide hs
  clear ho hN hs
  go_enter Tryd.func20, Tryd.ntmps20
  go_upto_region 1 with fail
  have D := cell2_new w (.bool false) (.slice none 0 0) 25
  have K1 := bel_alloc w (.cells #[.bool false, .slice none 0 0] 25)
  have ltb : w.heap.size < (w.alloc (.cells #[.bool false, .slice none 0 0] 25)).heap.size := D.lt
  generalize w.alloc (.cells #[.bool false, .slice none 0 0] 25) = w1 at *
  by_cases hc : N = 0
  · have e1 : es = [] := List.eq_nil_of_length_eq_zero (by rw [HN.out]; exact hc)
    have e2 : s = ⟨#[]⟩ := by rw [HS.out, e1]; rfl
    subst e2
    have hemp : (⟨#[]⟩ : ByteArray).toList.isEmpty = true := by rw [ByteArray.toList_eq]; rfl
    go_wp2_with fail
    with_reducible refine (natural_any HO.out HS.out HN.out hl).mono ?_
    rintro e w2 ⟨v2, rfl, h2, K⟩
    obtain ⟨ao2, l2, rfl⟩ := h2.form'
    go_wp2_with fail
    with_reducible refine (number_any h2 (s := 1) (by omega)).mono ?_
    rintro e w3 ⟨v3, rfl, h3, kb⟩
    replace K := below_trans K kb
    obtain ⟨rg, ro, rl, rfl⟩ := h3.told
    have HV : Hid (WNum w1.heap.size w3 (.agg #[.bool rg, .slice ro rl rl]) (twv es) ((N + 3) / 4 + 3)) := hide (by
      have hv : twv es = (if (1 : Int) = -1 then -Nb.val es else Nb.val es) := by subst e1; rfl
      rw [hv]; exact h3.mono (by omega))
    clear h2 h3 kb
    have d0 := (D.below K).c0; have d1 := (D.below K).c1; have g0 := (D.below K).f0; have g1 := (D.below K).f1
    go_wp2
    have PD := (D.below K).put (.bool rg) (.slice ro rl rl)
    have KB := below_put2 (b := w.heap.size) (below_trans K1 K) (Nat.le_refl _) (.bool rg) (.slice ro rl rl)
    have WN := ((HV.out.put ltb 0 (.bool rg)).put ltb 1 (.slice ro rl rl)).low (B' := w.heap.size) (by omega)
    clear d0 d1 g0 g1 HV
    generalize (w3.setCell ⟨w.heap.size, 0, none⟩ (.bool rg)).setCell ⟨w.heap.size, 1, none⟩ (.slice ro rl rl) = w9 at *
    (try simp only [Exit.inBlock, Exit.then])
    exact bodyPost_ret (v := .agg #[.bool rg, .slice ro rl rl]) (by simp [results, Tryd.results20, go_sem, PD.c0, PD.c1]) rfl ⟨_, rfl, WN, KB⟩
  · have hp : 0 < s.size := by omega
    have hp2 : (0 : Int) < (N : Int) := by omega
    have hne : ¬ s = ⟨#[]⟩ := fun e => by rw [e] at hsz; simp [ByteArray.size] at hsz; omega
    have hemp : s.toList.isEmpty = false := bytes_full hp
    clear hne
    have hix : (((s[0]'hp).toNat : Nat) : Int) = Nt.lb es (N - 1) := by
      have h0 : 0 < es.length := by rw [HN.out]; omega
      have hz := HS.out
      subst hz
      rw [strOfNums_at hp (by rw [lb_reverse h0]; exact HO.out _), lb_reverse h0, HN.out, Nat.sub_zero]
    have hb := HO.out (N - 1)
    obtain ⟨y, hy⟩ : ∃ y, y = Nt.lb es (N - 1) := ⟨_, rfl⟩
    rw [← hy] at hix hb
    have HY := hide hy
    clear hy
    by_cases ht : y < 128
    · go_wp2_with fail
      with_reducible refine (natural_any HO.out HS.out HN.out hl).mono ?_
      rintro e w2 ⟨v2, rfl, h2, K⟩
      obtain ⟨ao2, l2, rfl⟩ := h2.form'
      go_wp2_with fail
      with_reducible refine (number_any h2 (s := 1) (by omega)).mono ?_
      rintro e w3 ⟨v3, rfl, h3, kb⟩
      replace K := below_trans K kb
      obtain ⟨rg, ro, rl, rfl⟩ := h3.told
      have HV : Hid (WNum w1.heap.size w3 (.agg #[.bool rg, .slice ro rl rl]) (twv es) ((N + 3) / 4 + 3)) := hide (by
        have hv : twv es = (if (1 : Int) = -1 then -Nb.val es else Nb.val es) := by have hy := HY.out; have hn := HN.out; unfold twv; rw [hn, ← hy, if_neg (by omega), if_neg (by omega)]
        rw [hv]; exact h3.mono (by omega))
      clear h2 h3 kb
      have d0 := (D.below K).c0; have d1 := (D.below K).c1; have g0 := (D.below K).f0; have g1 := (D.below K).f1
      go_wp2
      have PD := (D.below K).put (.bool rg) (.slice ro rl rl)
      have KB := below_put2 (b := w.heap.size) (below_trans K1 K) (Nat.le_refl _) (.bool rg) (.slice ro rl rl)
      have WN := ((HV.out.put ltb 0 (.bool rg)).put ltb 1 (.slice ro rl rl)).low (B' := w.heap.size) (by omega)
      clear d0 d1 g0 g1 HV
      generalize (w3.setCell ⟨w.heap.size, 0, none⟩ (.bool rg)).setCell ⟨w.heap.size, 1, none⟩ (.slice ro rl rl) = w9 at *
      (try simp only [Exit.inBlock, Exit.then])
      exact bodyPost_ret (v := .agg #[.bool rg, .slice ro rl rl]) (by simp [results, Tryd.results20, go_sem, PD.c0, PD.c1]) rfl ⟨_, rfl, WN, KB⟩
    · have hcb := run_bytes_of_string (P := Tryd.prog) w1 9 48 5 s Tryd.underlying9 Tryd.underlying48 Tryd.underlying5
      obtain ⟨C, hC⟩ : ∃ C, C = grownCap w1 s.size 0 5 := ⟨_, rfl⟩
      rw [← hC, hsz] at hcb
      clear hC
      go_upto_region 4 with fail
      have K2 : Below w1.heap.size w1 (w1.alloc (Obj.cells (bytesRow s C) 5 ((bytesRow s C).size, (bytesRow s C).size + 1))).drew := (bel_alloc _ _).drew
      have SG : Seg (w1.alloc (Obj.cells (bytesRow s C) 5 ((bytesRow s C).size, (bytesRow s C).size + 1))).drew w1.heap.size es.reverse := by
        have h := seg_bytes (w := w1) (nb_ok_rev HO.out) C ((bytesRow s C).size, (bytesRow s C).size + 1) (by rw [HS.out]; simp [bytesRow, strOfNums])
        rw [← HS.out] at h
        exact h
      generalize (w1.alloc (Obj.cells (bytesRow s C) 5 ((bytesRow s C).size, (bytesRow s C).size + 1))).drew = w2 at *
      clear hcb
      go_wp2_with fail
      with_reducible refine (turnOver_seg SG (by rw [List.length_reverse]; exact HN.out) (nb_ok_rev HO.out) (by omega)).mono ?_
      rintro e w3 ⟨rfl, S3, kb⟩
      have K3 : Below w1.heap.size w1 w3 := K2.trans kb
      rw [flip_reverse] at S3
      have hcv := run_convert_bytes_arg (P := Tryd.prog) w3 48 5 Tryd.underlying48 Tryd.underlying5 w1.heap.size 0 N C (flip es).reverse (by rw [List.length_reverse, flip_length]; exact HN.out) (fun i hi => by rw [Nat.zero_add]; exact (S3 i (by rw [List.length_reverse, flip_length, HN.out]; exact hi)).1) 9 Tryd.underlying9
      clear S3 SG K2 kb
      go_wp2_with fail
      with_reducible refine (natural_any (flip_ok HO.out) rfl (by rw [flip_length]; exact HN.out) hl).mono ?_
      rintro e w4 ⟨v4, rfl, h4, kb⟩
      replace K3 := below_trans K3 kb
      clear kb hcv
      go_wp2_with fail
      with_reducible refine (from_any 1 (by omega) (by omega)).mono ?_
      rintro e w5 ⟨v5, rfl, h5, kb⟩
      replace h4 := h4.below kb
      replace K3 := below_trans K3 kb
      clear kb
      go_wp2_with fail
      with_reducible refine (add_any h4.arg h5.arg (by omega) (by omega)).mono ?_
      rintro e w6 ⟨v6, rfl, h6, kb⟩
      have K6 := below_trans K3 kb
      have h7 := h6.low (B' := w1.heap.size) K3.size
      clear h4 h5 h6 kb K3
      go_wp2_with fail
      with_reducible refine (number_any h7 (s := -1) (by omega)).mono ?_
      rintro e w7 ⟨v7, rfl, h8, kb⟩
      have K := below_trans K6 kb
      obtain ⟨rg, ro, rl, rfl⟩ := h8.told
      have HV : Hid (WNum w1.heap.size w7 (.agg #[.bool rg, .slice ro rl rl]) (twv es) ((N + 3) / 4 + 3)) := hide (by
        have hv : twv es = (if (-1 : Int) = -1 then -(Nb.val (flip es) + 1) else Nb.val (flip es) + 1) := by
          have hy := HY.out; have hn := HN.out
          unfold twv
          rw [hn, ← hy, if_pos (by omega), if_pos rfl, flip_val, hn]
          omega
        rw [hv]; exact h8.mono (by omega))
      clear h7 h8 kb K6
      have d0 := (D.below K).c0; have d1 := (D.below K).c1; have g0 := (D.below K).f0; have g1 := (D.below K).f1
      go_wp2
      have PD := (D.below K).put (.bool rg) (.slice ro rl rl)
      have KB := below_put2 (b := w.heap.size) (below_trans K1 K) (Nat.le_refl _) (.bool rg) (.slice ro rl rl)
      have WN := ((HV.out.put ltb 0 (.bool rg)).put ltb 1 (.slice ro rl rl)).low (B' := w.heap.size) (by omega)
      clear d0 d1 g0 g1 HV
      generalize (w7.setCell ⟨w.heap.size, 0, none⟩ (.bool rg)).setCell ⟨w.heap.size, 1, none⟩ (.slice ro rl rl) = w9 at *
      (try simp only [Exit.inBlock, Exit.then])
      exact bodyPost_ret (v := .agg #[.bool rg, .slice ro rl rl]) (by simp [results, Tryd.results20, go_sem, PD.c0, PD.c1]) rfl ⟨_, rfl, WN, KB⟩

end Go.Proofs.YtmpdkeafbjibpaaDoor
