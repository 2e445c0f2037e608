/- whole.Twos -/
import Derived.Test.YtmpdkeafbjibpaaDoorQBytes
import Derived.Handy
import Derived.Test.YtmpdkeafbjibpaaDoorWholeC
import Derived.Lib.BufferWrite
import Derived.Laws.CopyOwn
namespace Go.Proofs.YtmpdkeafbjibpaaDoor
open Go.RowKit

theorem xor_ones8 (n : Nat) (h : n < 256) : 255 ^^^ n = 255 - n := by
  have e : (BitVec.allOnes 8 ^^^ BitVec.ofNat 8 n).toNat = (~~~ BitVec.ofNat 8 n).toNat := by rw [BitVec.allOnes_xor]
  rw [BitVec.toNat_xor, BitVec.toNat_not, BitVec.toNat_allOnes, BitVec.toNat_ofNat, Nat.mod_eq_of_lt (by omega)] at e
  simpa using e
theorem flip8 {x : Int} (h0 : 0 ≤ x) (h1 : x < 256) : bits BinOp.xor IntKind.u8 (if IntKind.u8.signed = true then -1 else IntKind.u8.max) x = 255 - x := by
  obtain ⟨n, rfl⟩ := Int.eq_ofNat_of_zero_le h0
  have hn : n < 256 := by omega
  rw [show (if IntKind.u8.signed = true then (-1 : Int) else IntKind.u8.max) = ((255 : Nat) : Int) from rfl, u8_xor_nat 255 n (by omega) (by omega), xor_ones8 n hn]
  omega

def flip (zs : List Int) : List Int := zs.map fun z => 255 - z
theorem flip_length (zs : List Int) : (flip zs).length = zs.length := by simp [flip]
theorem flip_set {zs cur : List Int} {k : Nat} (hl : cur.length = zs.length) (hk : k < zs.length) (h1 : cur.take k = (flip zs).take k) (h2 : ∀ i, k ≤ i → Nt.lb cur i = Nt.lb zs i) {y : Int} (hy : y = 255 - Nt.lb zs k) : (cur.set k y).take (k + 1) = (flip zs).take (k + 1) ∧ ∀ i, k + 1 ≤ i → Nt.lb (cur.set k y) i = Nt.lb zs i := by
  subst hy
  refine ⟨?_, fun i hi => ?_⟩
  · rw [List.take_succ_eq_append_getElem (by rw [List.length_set]; omega), List.take_succ_eq_append_getElem (by rw [flip_length]; exact hk), List.take_set_of_le (Nat.le_refl _), h1]
    simp [flip, Nt.lb, hk]
  · rw [← h2 i (by omega)]
    simp only [Nt.lb, List.getD_eq_getElem?_getD]
    rw [List.getElem?_set_ne (by omega)]

set_option maxHeartbeats 2000000 in
theorem turnOver_any {w : World} {g N : Nat} {zs : List Int} (hr : Row .u8 5 w g zs) (hl : zs.length = N) (ho : Nb.Ok zs) (hN : N ≤ 1099511627776) :
    Calls Tryd.prog 38 #[.slice (some ⟨g, 0, none⟩) N N] w fun e w' => e = .returned (.tuple #[]) ∧ Row .u8 5 w' g (flip zs) ∧ Below g w w' := by
  have HL := hide hl
  clear hl
  go_enter Tryd.func38, Tryd.ntmps38
  go_wp2
  go_loopw [5] (fun i wr => ∃ (k : Nat) (cur : List Int), k ≤ N ∧ i = .int .i64 k ∧ cur.length = zs.length ∧ cur.take k = (flip zs).take k ∧ (∀ i, k ≤ i → Nt.lb cur i = Nt.lb zs i) ∧ Row .u8 5 wr g cur ∧ Below g w wr) (fun i _ => N - (intOf i).toNat)
  case atStart => exact ⟨0, zs, by omega, rfl, rfl, by simp, fun _ _ => rfl, hr, Below.refl _ _⟩
  case round =>
    obtain ⟨k, cur, hk, rfl, hcl, hct, hcr, hrow, hbr⟩ := hrel
    have hkk := hcr k (Nat.le_refl _)
    have HA := hide (And.intro hcl (And.intro hct hcr))
    clear hcl hct hcr hr
    by_cases hkN : k < N
    · have g1 := hrow.cell (i := k) (by have := HA.out.1; have := HL.out; omega)
      have hfz := hrow.frozen k
      have bk := ho k
      rw [hkk] at g1
      clear hkk
      have b0 : 0 ≤ Nt.lb zs k := bk.1
      have b1 : Nt.lb zs k < 256 := bk.2
      have hfl := hide (flip8 b0 b1)
      go_wp2
      rw [hfl.out]
      go_roundw
      case rel => 
        have hstep := flip_set HA.out.1 (by have := HL.out; omega) HA.out.2.1 HA.out.2.2 (y := 255 - Nt.lb zs k) rfl
        exact ⟨k + 1, cur.set k (255 - Nt.lb zs k), by omega, by go_num, by rw [List.length_set, HA.out.1], hstep.1, hstep.2, hrow.set _ _, hbr.setCell (p := ⟨g, k, none⟩) (Nat.le_refl _) _⟩
      case measure => simp [intOf]; omega
    · go_wp2
      go_returns
      refine ⟨rfl, ?_, hbr⟩
      have h1 := HA.out.1
      have h2 := HA.out.2.1
      have h3 := HL.out
      have : cur = flip zs := by
        rw [List.take_of_length_le (by omega), List.take_of_length_le (by rw [flip_length]; omega)] at h2
        exact h2
      rw [← this]
      exact hrow

/-- x as so many bytes of two's complement, the highest first -/
def TStr (N : Nat) (x : Int) (s : ByteArray) : Prop := ∃ ds, Nb.Ok ds ∧ ds.length = N ∧ s = strOfNums ds.reverse ∧ Nb.val ds = (if x < 0 then x + Nb.pw N else x)
/-- it has room -/
def Fits (N : Nat) (x : Int) : Prop := -p2 (8 * N - 1) ≤ x ∧ x < p2 (8 * N - 1)

theorem tstr_one {N : Nat} {x : Int} {s t : ByteArray} (hs : TStr N x s) (ht : TStr N x t) : s = t := by
  obtain ⟨d, h1, h2, h3, h4⟩ := hs
  obtain ⟨e, k1, k2, k3, k4⟩ := ht
  have hv : Nb.vt d N = Nb.vt e N := by
    have a1 : Nb.vt d N = Nb.val d := by rw [← h2]; rfl
    have a2 : Nb.vt e N = Nb.val e := by rw [← k2]; rfl
    rw [a1, a2, h4, k4]
  have : d = e := Nt.ext_lb (h2.trans k2.symm) (fun j hj => Nb.vt_inj h1 k1 hv j (by omega))
  rw [h3, k3, this]

theorem nb_ok_rev {xs : List Int} (h : Nb.Ok xs) : Nb.Ok xs.reverse := by
  intro i
  by_cases hi : i < xs.length
  · rw [lb_reverse hi]; exact h _
  · rw [Nt.lb_out (by rw [List.length_reverse]; omega)]; omega
theorem flip_reverse (l : List Int) : flip l.reverse = (flip l).reverse := by simp [flip]
theorem lb_flip {l : List Int} {i : Nat} (h : i < l.length) : Nt.lb (flip l) i = 255 - Nt.lb l i := by simp [flip, Nt.lb, h]
theorem flip_ok {l : List Int} (h : Nb.Ok l) : Nb.Ok (flip l) := by
  intro i
  by_cases hi : i < l.length
  · have h1 := h i
    have : Nt.lb (flip l) i = 255 - Nt.lb l i := lb_flip hi
    omega
  · rw [Nt.lb_out (by rw [flip_length]; omega)]; omega
theorem flip_vt {l : List Int} : ∀ n, n ≤ l.length → Nb.vt (flip l) n = Nb.pw n - 1 - Nb.vt l n
  | 0, _ => by simp [Nb.vt, Nb.pw]
  | n + 1, h => by
    rw [Nb.vt_succ, Nb.vt_succ, flip_vt n (by omega), Nb.pw_succ, show Nt.lb (flip l) n = 255 - Nt.lb l n from lb_flip (by omega)]
    rw [Int.sub_mul]
    omega
theorem flip_val (l : List Int) : Nb.val (flip l) = Nb.pw l.length - 1 - Nb.val l := by
  have := flip_vt (l := l) l.length (Nat.le_refl _)
  have h2 : Nb.val (flip l) = Nb.vt (flip l) l.length := by rw [← flip_length l]; rfl
  rw [h2, this]; rfl

theorem lb_tail0 {l : List Int} {z i : Nat} : Nt.lb (l ++ List.replicate z 0) i = Nt.lb l i := by
  by_cases h : i < l.length
  · simp [Nt.lb, List.getElem?_append_left h]
  · by_cases h2 : i < l.length + z
    · have h3 : i - l.length < z := by omega
      simp [Nt.lb, List.getElem?_append_right (show l.length ≤ i by omega), List.getElem?_eq_none (show l.length ≤ i by omega), h3]
    · rw [Nt.lb_out (by rw [List.length_append, List.length_replicate]; omega), Nt.lb_out (by omega)]
theorem pad_ok {l : List Int} {z : Nat} (h : Nb.Ok l) : Nb.Ok (l ++ List.replicate z 0) := fun i => by rw [lb_tail0]; exact h i
theorem pad_val {l : List Int} {z : Nat} : Nb.val (l ++ List.replicate z 0) = Nb.val l := by
  have h1 : Nb.val (l ++ List.replicate z 0) = Nb.vt l (l.length + z) := by
    show Nb.vt _ _ = _
    rw [List.length_append, List.length_replicate]
    exact Nb.vt_congr (fun i _ => lb_tail0)
  rw [h1, Nb.vt_out (by omega)]

theorem canon_fits {ds : List Int} {N : Nat} (h : Nb.Canon ds) (hv : Nb.val ds < Nb.pw N) : ds.length ≤ N := by
  rcases Nat.lt_or_ge N ds.length with h1 | h1
  · have h2 := Nb.canon_low h (by intro e; subst e; simp at h1)
    have h3 := Nb.pw_mono (m := N) (n := ds.length - 1) (by omega)
    omega
  · exact h1

theorem isLen_fits {a : Int} {K m : Nat} (h : IsLen a K) : K ≤ m ↔ a < p2 m := by
  constructor
  · intro hk
    have h1 := p2_mono hk
    have h2 := h.1
    omega
  · intro ha
    rcases Nat.lt_or_ge m K with h1 | h1
    · have h2 := h.2 (by omega)
      have h3 := p2_mono (m := m) (n := K - 1) (by omega)
      omega
    · exact h1

theorem cells_of_nums {zs : List Int} (h : Nb.Ok zs) : Lib.byteCells (strOfNums zs).data.toList = zs.map (Value.int .u8) := by
  rw [strOfNums_data]
  simp only [Lib.byteCells, List.map_map]
  apply List.map_congr_left
  intro z hz
  obtain ⟨i, hi, rfl⟩ := List.getElem_of_mem hz
  have h1 := h i
  have h2 : Nt.lb zs i = zs[i] := by simp [Nt.lb, hi]
  rw [h2] at h1
  simp
  omega

theorem Tryd.sizeU8 : (Tryd.prog.info? 5).map (·.size) = some 1 := by kernel_rfl
/-- copy of a string into a row of bytes -/
theorem wpList_copy_str {P : Program} {w : World} {ops : Array Oper} {rest : List Oper} {o : Oper} {a : Act} {Q : Exit → Act → World → Prop} (hgd : o.guard = none) (d s : Operand) (dT sT : TypeId)
    (ho : o.op = .call { callee := .builtin .copy, args := #[d, s], argTypes := #[dT, sT] }) (elem : TypeId) (hu : P.underlying dT = some (.slice elem)) (hsz : (P.info? elem).map (·.size) = some 1)
    (dp : Option Addr) (dLen dCap : Nat) (zs : List Int) (hz : Nb.Ok zs) (hd : a.eval d = .slice dp dLen dCap) (hs : a.eval s = .string (strOfNums zs))
    (g off : Nat) (cur : List Int) (t : TypeId) (hg : Row .u8 t w g cur) (hpos : 0 < zs.length → dp = some ⟨g, off, none⟩) (hle : zs.length ≤ dLen) (hfit : off + zs.length ≤ cur.length)
    (h : ∀ w', Row .u8 t w' g (cur.take off ++ (zs ++ cur.drop (off + zs.length))) → Below g w w' → wpList P ops Q rest (a.put o.dst (goInt zs.length)) w') :
    wpList P ops Q (o :: rest) a w := by
  have hlen : (strOfNums zs).size = zs.length := by simp [strOfNums, ByteArray.size]
  refine wpList_plain hgd fun K hK => ?_
  by_cases h0 : zs.length = 0
  · obtain rfl : zs = [] := List.eq_nil_of_length_eq_zero h0
    have hrun := Lib.run_copy_empty_string (P := P) w dT sT o.type elem dp dLen dCap (strOfNums []) hu (by rw [hsz]; rfl) hlen
    unfold Oper.wp
    simp [execOp, ho, resolve, invoke, builtin, hd, hs, hrun, Result.andThen]
    refine hK _ _ (h w ?_ (Below.refl _ _))
    simpa using hg
  · obtain rfl := hpos (by omega)
    have hrun := Lib.run_copy_row_string (P := P) w dT sT o.type elem g off dLen dCap (strOfNums zs) _ t hu hsz hg (by omega) (by simpa [hlen] using hfit)
    rw [cells_of_nums hz, hlen] at hrun
    unfold Oper.wp
    simp [execOp, ho, resolve, invoke, builtin, hd, hs, hrun, Result.andThen]
    refine hK _ _ (h _ ?_ (below_setRow (Below.refl _ _) (Nat.le_refl _) _))
    have := setRow_heap w g _ ((cur.take off ++ (zs ++ cur.drop (off + zs.length))).map (Value.int .u8)).toArray t _ hg
    unfold Row
    simpa using this

set_option maxRecDepth 20000 in
set_option maxHeartbeats 4000000 in
theorem twos_any {w : World} {v : Value} {x : Int} {k N : Nat} (h : WArg w v x k) (hk : k ≤ 1099511627776) (h1 : 1 ≤ N) (h2 : N ≤ 1048576) :
    Calls Tryd.prog 19 #[v, .int .i64 N] w fun e w' => (∃ s b, e = .returned (.tuple #[.string s, .bool b]) ∧ ((b = true ∧ Fits N x ∧ TStr N x s) ∨ (b = false ∧ ¬ Fits N x ∧ s = ⟨#[]⟩))) ∧ Below w.heap.size w w' := by
  obtain ⟨neg, m, a, rfl, ha, hn⟩ := h
  have A1 := ha
  obtain ⟨zs, ⟨ao, cap, rfl, -⟩, -⟩ := ha
  have N1 := A1.nonneg
  have hs := sg_self hn N1
  have hsl := sg_lt hs
  have Hn := hide hn
  clear hn
  have K1 : Below w.heap.size w (w.alloc (.cells #[.bool neg, .slice ao zs.length cap] 25)) := bel_alloc _ _
  have C1 := cell2_new w (.bool neg) (.slice ao zs.length cap) 25
  replace A1 := A1.below K1
  have HC := hide C1
  have p0 := C1.c0
  have p1 := C1.c1
  clear C1
  go_enter Tryd.func19, Tryd.ntmps19
  go_upto_region 3 with fail
  generalize w.alloc (.cells #[.bool neg, .slice ao zs.length cap] 25) = w1 at *
  have K : Below w1.heap.size w1 w1.drew := (Below.refl _ _).drew
  go_region_held3 (fun w' => w'.cell? ⟨w.heap.size, 0, none⟩ = some (.bool neg) ∧ w'.cell? ⟨w.heap.size, 1, none⟩ = some (.slice ao zs.length cap))
    (first
      | with_reducible exact ⟨(HC.out.below K).c0, (HC.out.below K).c1⟩
      | go_keep)
    (first
      | (go_at_call 23; with_reducible refine (sign_any (A1.below K) Hn.out (by omega)).mono ?_; rintro e w2 ⟨rfl, hb⟩; replace K := below_trans K hb; clear hb))
  have KB := K1.trans (K.mono K1.size)
  replace A1 := A1.below K
  clear K K1 p0 p1 HC
  by_cases hneg : x < 0
  · rw [decide_eq_true hneg] at hsl
    go_wp2_with fail
    with_reducible refine (from_any 1 (by omega) (by omega)).mono ?_
    rintro e w3 ⟨v1, rfl, ho, hb3⟩
    go_wp2_with fail
    have ha1 : 1 ≤ a := by unfold Sg at hs; omega
    with_reducible refine (sub_yes (A1.below hb3) ho.arg (by omega) (by omega) ha1).mono ?_
    rintro e w4 ⟨vs, rfl, hS, hb4⟩
    replace KB := below_trans (below_trans KB hb3) hb4
    clear ho hb3 hb4 A1
    obtain ⟨ys, ⟨so, rfl, -⟩, -⟩ := id hS
    go_wp2_with fail
    with_reducible refine (len_any hS.arg (by omega)).mono ?_
    rintro e w5 ⟨K, rfl, hK, hK2, rfl⟩
    have hKf := isLen_fits (m := 8 * N - 1) hK
    clear hK hK2
    by_cases hfit : K ≤ 8 * N - 1
    · have hlt : a - 1 < p2 (8 * N - 1) := hKf.1 hfit
      have hF : Fits N x := by unfold Fits; unfold Sg at hs; omega
      have q1 : ¬ (8 : Int) * (N : Int) - 1 < (K : Int) := by omega
      clear hKf hfit
      have HF := hide (And.intro hF hlt)
      clear hF hlt
      go_wp2_with (at_make; refine wpList_make_row _ rfl _ _ 48 rfl 5 .u8 1 Tryd.underlying48 Tryd.infoU8 _ _ _ _ N N rfl rfl (by omega) (by omega) (Nat.le_refl _) (by omega) (by unfold maxLen; omega) ?_)
      intro w6 hrow hb6 hz6
      go_wp2_with fail
      with_reducible refine (qbytes_any (hS.arg.below hb6) (by omega)).mono ?_
      rintro e w7 ⟨sb, rfl, ⟨ds, hdc, hdv, hsb⟩, -, hb7⟩
      have hdl : ds.length ≤ N := canon_fits hdc (by have h1 := HF.out.2; have h2 := p2_mono (m := 8 * N - 1) (n := 8 * N) (by omega); rw [p2_8] at h2; omega)
      obtain ⟨rv, hrv⟩ : ∃ rv, rv = ds.reverse := ⟨_, rfl⟩
      rw [← hrv] at hsb
      subst hsb
      obtain ⟨cur, hcur⟩ : ∃ cur, cur = List.replicate N (0 : Int) := ⟨_, rfl⟩
      have hrow7 := hrow.keeps hb7
      rw [← hcur] at hrow7
      have hrl : rv.length = ds.length := by rw [hrv, List.length_reverse]
      have hcl : cur.length = N := by rw [hcur, List.length_replicate]
      have hsz : (((strOfNums rv).size : Nat) : Int) = (ds.length : Int) := by rw [← hrl]; simp [strOfNums, ByteArray.size]
      obtain ⟨off, hoff⟩ : ∃ off, off = N - ds.length := ⟨_, rfl⟩
      have q2 : (N : Int) - (ds.length : Int) = (off : Int) := by omega
      have q4 : (off : Int) ≤ (N : Int) := by omega
      have q5 : (ds.length : Int) ≤ 9223372036854775807 := by omega
      have KB7 := below_trans (below_trans KB hb6) hb7
      have lt7 : w.heap.size ≤ w5.heap.size := KB.size
      have hrok : Nb.Ok rv := by rw [hrv]; exact nb_ok_rev hdc.1
      have hfl : off + rv.length ≤ cur.length := by omega
      have hle : rv.length ≤ N - off := by omega
      have HD := hide (And.intro hdc (And.intro hdv (And.intro hoff (And.intro hrv (And.intro hcur hrl)))))
      have HX := hide (And.intro hrok (And.intro hfl (And.intro hrow7 hle)))
      clear hb6 hb7 KB hrow hdv hoff hdc hdl hrok hfl hrow7 hrv hcur hrl hcl hle
      by_cases hon : off = N
      · have hon' := hon.symm
        subst hon'
        have hrn : rv = [] := by have h1 := HX.out.2.2.2; exact List.eq_nil_of_length_eq_zero (by omega)
        have HRN := hide hrn
        clear hrn
        go_wp2_with (refine wpList_copy_str rfl (.tmp 43) (.tmp 44) 48 9 rfl 5 Tryd.underlying48 Tryd.sizeU8 _ _ _ rv HX.out.1 rfl rfl w5.heap.size N cur 5 HX.out.2.2.1 ?_ ?_ HX.out.2.1 ?_)
        · intro h0; have h1 := HRN.out; rw [h1] at h0; simp at h0
        · have h1 := HX.out.2.2.2
          omega
        intro w8 hr8 hb8
        have hT : cur.take N ++ (rv ++ cur.drop (N + rv.length)) = (ds ++ List.replicate N 0).reverse := by
          have h1 := HD.out.2.2.1
          have h2 := HD.out.2.2.2.2.2
          rw [HD.out.2.2.2.2.1, List.drop_eq_nil_of_le (by first | (simp; done) | (simp; omega)), HD.out.2.2.2.1, List.append_nil, List.reverse_append, List.reverse_replicate, List.take_replicate, Nat.min_eq_left (by omega)]
        rw [hT] at hr8
        have hln : (ds ++ List.replicate N 0).length = N := by have h1 := HD.out.2.2.1; have h2 := HX.out.2.2.2; have h3 := HD.out.2.2.2.2.2; rw [List.length_append, List.length_replicate]; omega
        have hok : Nb.Ok (ds ++ List.replicate N 0) := pad_ok HD.out.1.1
        have hvl : Nb.val (ds ++ List.replicate N 0) = a - 1 := by rw [pad_val]; exact HD.out.2.1
        have KB8 := KB7.trans (hb8.mono lt7)
        clear hb8 KB7 HX HD hT
        generalize ds ++ List.replicate N 0 = es at *
        go_wp2_with fail
        with_reducible refine (turnOver_any hr8 (by rw [List.length_reverse]; exact hln) (nb_ok_rev hok) (by omega)).mono ?_
        rintro e w9 ⟨rfl, hr9, hb9⟩
        rw [flip_reverse] at hr9
        have hcv := row_string (cap := N) hr9
        rw [List.length_reverse, flip_length, hln] at hcv
        have KB9 := KB8.trans (hb9.mono lt7)
        have hts : TStr N x (strOfNums (flip es).reverse) := ⟨flip es, flip_ok hok, by rw [flip_length]; exact hln, rfl, by
          rw [flip_val, hvl, hln, if_pos (by omega)]; unfold Sg at hs; omega⟩
        have HT := hide hts
        clear hts
        go_wp2
        go_ret2
        exact ⟨⟨_, _, rfl, Or.inl ⟨rfl, HF.out.1, HT.out⟩⟩, KB9⟩
      · have q6 : (off : Int) < (N : Int) := by omega
        clear hon
        go_wp2_with (refine wpList_copy_str rfl (.tmp 43) (.tmp 44) 48 9 rfl 5 Tryd.underlying48 Tryd.sizeU8 _ _ _ rv HX.out.1 rfl rfl w5.heap.size off cur 5 HX.out.2.2.1 ?_ ?_ HX.out.2.1 ?_)
        · exact HX.out.2.2.2
        intro w8 hr8 hb8
        have hT : cur.take off ++ (rv ++ cur.drop (off + rv.length)) = (ds ++ List.replicate off 0).reverse := by
          have h1 := HD.out.2.2.1
          have h2 := HD.out.2.2.2.2.2
          rw [HD.out.2.2.2.2.1, List.drop_eq_nil_of_le (by first | (simp; done) | (simp; omega)), HD.out.2.2.2.1, List.append_nil, List.reverse_append, List.reverse_replicate, List.take_replicate, Nat.min_eq_left (by omega)]
        rw [hT] at hr8
        have hln : (ds ++ List.replicate off 0).length = N := by have h1 := HD.out.2.2.1; have h2 := HX.out.2.2.2; have h3 := HD.out.2.2.2.2.2; rw [List.length_append, List.length_replicate]; omega
        have hok : Nb.Ok (ds ++ List.replicate off 0) := pad_ok HD.out.1.1
        have hvl : Nb.val (ds ++ List.replicate off 0) = a - 1 := by rw [pad_val]; exact HD.out.2.1
        have KB8 := KB7.trans (hb8.mono lt7)
        clear hb8 KB7 HX HD hT
        generalize ds ++ List.replicate off 0 = es at *
        go_wp2_with fail
        with_reducible refine (turnOver_any hr8 (by rw [List.length_reverse]; exact hln) (nb_ok_rev hok) (by omega)).mono ?_
        rintro e w9 ⟨rfl, hr9, hb9⟩
        rw [flip_reverse] at hr9
        have hcv := row_string (cap := N) hr9
        rw [List.length_reverse, flip_length, hln] at hcv
        have KB9 := KB8.trans (hb9.mono lt7)
        have hts : TStr N x (strOfNums (flip es).reverse) := ⟨flip es, flip_ok hok, by rw [flip_length]; exact hln, rfl, by
          rw [flip_val, hvl, hln, if_pos (by omega)]; unfold Sg at hs; omega⟩
        have HT := hide hts
        clear hts
        go_wp2
        go_ret2
        exact ⟨⟨_, _, rfl, Or.inl ⟨rfl, HF.out.1, HT.out⟩⟩, KB9⟩
    · have hge : ¬ a - 1 < p2 (8 * N - 1) := fun h => hfit (hKf.2 h)
      have hF : ¬ Fits N x := by unfold Fits; unfold Sg at hs; omega
      have q1 : (8 : Int) * (N : Int) - 1 < (K : Int) := by omega
      have HF := hide hF
      clear hKf hge hF
      go_wp2
      go_ret2
      exact ⟨⟨_, _, rfl, Or.inr ⟨rfl, HF.out, rfl⟩⟩, KB⟩
  · rw [decide_eq_false hneg] at hsl
    go_wp2_with fail
    with_reducible refine (len_any A1.arg (by omega)).mono ?_
    rintro e w5 ⟨K, rfl, hK, hK2, rfl⟩
    have hKf := isLen_fits (m := 8 * N - 1) hK
    clear hK hK2
    by_cases hfit : K ≤ 8 * N - 1
    · have hlt : a < p2 (8 * N - 1) := hKf.1 hfit
      have hF : Fits N x := by unfold Fits; unfold Sg at hs; omega
      have q1 : ¬ (8 : Int) * (N : Int) - 1 < (K : Int) := by omega
      clear hKf hfit
      have HF := hide (And.intro hF hlt)
      clear hF hlt
      go_wp2_with (at_make; refine wpList_make_row _ rfl _ _ 48 rfl 5 .u8 1 Tryd.underlying48 Tryd.infoU8 _ _ _ _ N N rfl rfl (by omega) (by omega) (Nat.le_refl _) (by omega) (by unfold maxLen; omega) ?_)
      intro w6 hrow hb6 hz6
      go_wp2_with fail
      with_reducible refine (qbytes_any (A1.arg.below hb6) (by omega)).mono ?_
      rintro e w7 ⟨sb, rfl, ⟨ds, hdc, hdv, hsb⟩, -, hb7⟩
      have hdl : ds.length ≤ N := canon_fits hdc (by have h1 := HF.out.2; have h2 := p2_mono (m := 8 * N - 1) (n := 8 * N) (by omega); rw [p2_8] at h2; omega)
      obtain ⟨rv, hrv⟩ : ∃ rv, rv = ds.reverse := ⟨_, rfl⟩
      rw [← hrv] at hsb
      subst hsb
      obtain ⟨cur, hcur⟩ : ∃ cur, cur = List.replicate N (0 : Int) := ⟨_, rfl⟩
      have hrow7 := hrow.keeps hb7
      rw [← hcur] at hrow7
      have hrl : rv.length = ds.length := by rw [hrv, List.length_reverse]
      have hcl : cur.length = N := by rw [hcur, List.length_replicate]
      have hsz : (((strOfNums rv).size : Nat) : Int) = (ds.length : Int) := by rw [← hrl]; simp [strOfNums, ByteArray.size]
      obtain ⟨off, hoff⟩ : ∃ off, off = N - ds.length := ⟨_, rfl⟩
      have q2 : (N : Int) - (ds.length : Int) = (off : Int) := by omega
      have q4 : (off : Int) ≤ (N : Int) := by omega
      have q5 : (ds.length : Int) ≤ 9223372036854775807 := by omega
      have KB7 := below_trans (below_trans KB hb6) hb7
      have lt7 : w.heap.size ≤ w5.heap.size := KB.size
      have hrok : Nb.Ok rv := by rw [hrv]; exact nb_ok_rev hdc.1
      have hfl : off + rv.length ≤ cur.length := by omega
      have hle : rv.length ≤ N - off := by omega
      have HD := hide (And.intro hdc (And.intro hdv (And.intro hoff (And.intro hrv (And.intro hcur hrl)))))
      have HX := hide (And.intro hrok (And.intro hfl (And.intro hrow7 hle)))
      clear hb6 hb7 KB hrow hdv hoff hdc hdl hrok hfl hrow7 hrv hcur hrl hcl hle
      by_cases hon : off = N
      · have hon' := hon.symm
        subst hon'
        have hrn : rv = [] := by have h1 := HX.out.2.2.2; exact List.eq_nil_of_length_eq_zero (by omega)
        have HRN := hide hrn
        clear hrn
        go_wp2_with (refine wpList_copy_str rfl (.tmp 43) (.tmp 44) 48 9 rfl 5 Tryd.underlying48 Tryd.sizeU8 _ _ _ rv HX.out.1 rfl rfl w5.heap.size N cur 5 HX.out.2.2.1 ?_ ?_ HX.out.2.1 ?_)
        · intro h0; have h1 := HRN.out; rw [h1] at h0; simp at h0
        · have h1 := HX.out.2.2.2
          omega
        intro w8 hr8 hb8
        have hT : cur.take N ++ (rv ++ cur.drop (N + rv.length)) = (ds ++ List.replicate N 0).reverse := by
          have h1 := HD.out.2.2.1
          have h2 := HD.out.2.2.2.2.2
          rw [HD.out.2.2.2.2.1, List.drop_eq_nil_of_le (by first | (simp; done) | (simp; omega)), HD.out.2.2.2.1, List.append_nil, List.reverse_append, List.reverse_replicate, List.take_replicate, Nat.min_eq_left (by omega)]
        rw [hT] at hr8
        have hln : (ds ++ List.replicate N 0).length = N := by have h1 := HD.out.2.2.1; have h2 := HX.out.2.2.2; have h3 := HD.out.2.2.2.2.2; rw [List.length_append, List.length_replicate]; omega
        have hok : Nb.Ok (ds ++ List.replicate N 0) := pad_ok HD.out.1.1
        have hvl : Nb.val (ds ++ List.replicate N 0) = a := by rw [pad_val]; exact HD.out.2.1
        have KB8 := KB7.trans (hb8.mono lt7)
        clear hb8 KB7 HX HD hT
        generalize ds ++ List.replicate N 0 = es at *
        have hcv := row_string (cap := N) hr8
        rw [List.length_reverse, hln] at hcv
        have hts : TStr N x (strOfNums es.reverse) := ⟨es, hok, hln, rfl, by
          rw [hvl, if_neg (by omega)]; unfold Sg at hs; omega⟩
        have HT := hide hts
        clear hts
        go_wp2
        go_ret2
        exact ⟨⟨_, _, rfl, Or.inl ⟨rfl, HF.out.1, HT.out⟩⟩, KB8⟩
      · have q6 : (off : Int) < (N : Int) := by omega
        clear hon
        go_wp2_with (refine wpList_copy_str rfl (.tmp 43) (.tmp 44) 48 9 rfl 5 Tryd.underlying48 Tryd.sizeU8 _ _ _ rv HX.out.1 rfl rfl w5.heap.size off cur 5 HX.out.2.2.1 ?_ ?_ HX.out.2.1 ?_)
        · exact HX.out.2.2.2
        intro w8 hr8 hb8
        have hT : cur.take off ++ (rv ++ cur.drop (off + rv.length)) = (ds ++ List.replicate off 0).reverse := by
          have h1 := HD.out.2.2.1
          have h2 := HD.out.2.2.2.2.2
          rw [HD.out.2.2.2.2.1, List.drop_eq_nil_of_le (by first | (simp; done) | (simp; omega)), HD.out.2.2.2.1, List.append_nil, List.reverse_append, List.reverse_replicate, List.take_replicate, Nat.min_eq_left (by omega)]
        rw [hT] at hr8
        have hln : (ds ++ List.replicate off 0).length = N := by have h1 := HD.out.2.2.1; have h2 := HX.out.2.2.2; have h3 := HD.out.2.2.2.2.2; rw [List.length_append, List.length_replicate]; omega
        have hok : Nb.Ok (ds ++ List.replicate off 0) := pad_ok HD.out.1.1
        have hvl : Nb.val (ds ++ List.replicate off 0) = a := by rw [pad_val]; exact HD.out.2.1
        have KB8 := KB7.trans (hb8.mono lt7)
        clear hb8 KB7 HX HD hT
        generalize ds ++ List.replicate off 0 = es at *
        have hcv := row_string (cap := N) hr8
        rw [List.length_reverse, hln] at hcv
        have hts : TStr N x (strOfNums es.reverse) := ⟨es, hok, hln, rfl, by
          rw [hvl, if_neg (by omega)]; unfold Sg at hs; omega⟩
        have HT := hide hts
        clear hts
        go_wp2
        go_ret2
        exact ⟨⟨_, _, rfl, Or.inl ⟨rfl, HF.out.1, HT.out⟩⟩, KB8⟩
    · have hge : ¬ a < p2 (8 * N - 1) := fun h => hfit (hKf.2 h)
      have hF : ¬ Fits N x := by unfold Fits; unfold Sg at hs; omega
      have q1 : (8 : Int) * (N : Int) - 1 < (K : Int) := by omega
      have HF := hide hF
      clear hKf hge hF
      go_wp2
      go_ret2
      exact ⟨⟨_, _, rfl, Or.inr ⟨rfl, HF.out, rfl⟩⟩, KB⟩

end Go.Proofs.YtmpdkeafbjibpaaDoor
