/- Twos, FromTwos, TwMath, WLives -/
import Derived.Test.YtejenbkhhcjeaaaGreatDoorR06
import Derived.Handy
import Derived.Test.YtejenbkhhcjeaaaGreatDoorR08
import Derived.Lib.BufferWrite
import Derived.Laws.CopyOwn
import Derived.Laws.IdiomStrings
namespace Go.Proofs.YtejenbkhhcjeaaaGreatDoor
open Go.RowKit

theorem xor_ones8 (n : Nat) (h : n < 256) : 255 ^^^ n = 255 - n := by
  have e : (BitVec.allOnes 8 ^^^ BitVec.ofNat 8 n).toNat = (~~~ BitVec.ofNat 8 n).toNat := by rw [BitVec.allOnes_xor]
  rw [BitVec.toNat_xor, BitVec.toNat_not, BitVec.toNat_allOnes, BitVec.toNat_ofNat, Nat.mod_eq_of_lt (by omega)] at e
  simpa using e
theorem flip8 {x : Int} (h0 : 0 ≤ x) (h1 : x < 256) : bits BinOp.xor IntKind.u8 (if IntKind.u8.signed = true then -1 else IntKind.u8.max) x = 255 - x := by
  obtain ⟨n, rfl⟩ := Int.eq_ofNat_of_zero_le h0
  have hn : n < 256 := by omega
  rw [show (if IntKind.u8.signed = true then (-1 : Int) else IntKind.u8.max) = ((255 : Nat) : Int) from rfl, u8_xor_nat 255 n (by omega) (by omega), xor_ones8 n hn]
  omega

def flip (zs : List Int) : List Int := zs.map fun z => 255 - z
theorem flip_length (zs : List Int) : (flip zs).length = zs.length := by simp [flip]
theorem flip_set {zs cur : List Int} {k : Nat} (hl : cur.length = zs.length) (hk : k < zs.length) (h1 : cur.take k = (flip zs).take k) (h2 : ∀ i, k ≤ i → Nt.lb cur i = Nt.lb zs i) {y : Int} (hy : y = 255 - Nt.lb zs k) : (cur.set k y).take (k + 1) = (flip zs).take (k + 1) ∧ ∀ i, k + 1 ≤ i → Nt.lb (cur.set k y) i = Nt.lb zs i := by
  subst hy
  refine ⟨?_, fun i hi => ?_⟩
  · rw [List.take_succ_eq_append_getElem (by rw [List.length_set]; omega), List.take_succ_eq_append_getElem (by rw [flip_length]; exact hk), List.take_set_of_le (Nat.le_refl _), h1]
    simp [flip, Nt.lb, hk]
  · rw [← h2 i (by omega)]
    simp only [Nt.lb, List.getD_eq_getElem?_getD]
    rw [List.getElem?_set_ne (by omega)]

set_option maxHeartbeats 2000000 in
theorem turnOver_any {w : World} {g N : Nat} {zs : List Int} (hr : Row .u8 5 w g zs) (hl : zs.length = N) (ho : Nb.Ok zs) (hN : N ≤ 1099511627776) :
    Calls Tryz.prog 27 #[.slice (some ⟨g, 0, none⟩) N N] w fun e w' => e = .returned (.tuple #[]) ∧ Row .u8 5 w' g (flip zs) ∧ Below g w w' := by
  have HL := hide hl
  clear hl
  go_enter Tryz.func27, Tryz.ntmps27
  go_wp2
  go_loopw [5] (fun i wr => ∃ (k : Nat) (cur : List Int), k ≤ N ∧ i = .int .i64 k ∧ cur.length = zs.length ∧ cur.take k = (flip zs).take k ∧ (∀ i, k ≤ i → Nt.lb cur i = Nt.lb zs i) ∧ Row .u8 5 wr g cur ∧ Below g w wr) (fun i _ => N - (intOf i).toNat)
  case atStart => exact ⟨0, zs, by omega, rfl, rfl, by simp, fun _ _ => rfl, hr, Below.refl _ _⟩
  case round =>
    obtain ⟨k, cur, hk, rfl, hcl, hct, hcr, hrow, hbr⟩ := hrel
    have hkk := hcr k (Nat.le_refl _)
    have HA := hide (And.intro hcl (And.intro hct hcr))
    clear hcl hct hcr hr
    by_cases hkN : k < N
    · have g1 := hrow.cell (i := k) (by have := HA.out.1; have := HL.out; omega)
      have hfz := hrow.frozen k
      have bk := ho k
      rw [hkk] at g1
      clear hkk
      have b0 : 0 ≤ Nt.lb zs k := bk.1
      have b1 : Nt.lb zs k < 256 := bk.2
      have hfl := hide (flip8 b0 b1)
      go_wp2
      rw [hfl.out]
      go_roundw
      case rel => 
        have hstep := flip_set HA.out.1 (by have := HL.out; omega) HA.out.2.1 HA.out.2.2 (y := 255 - Nt.lb zs k) rfl
        exact ⟨k + 1, cur.set k (255 - Nt.lb zs k), by omega, by go_num, by rw [List.length_set, HA.out.1], hstep.1, hstep.2, hrow.set _ _, hbr.setCell (p := ⟨g, k, none⟩) (Nat.le_refl _) _⟩
      case measure => simp [intOf]; omega
    · go_wp2
      go_returns
      refine ⟨rfl, ?_, hbr⟩
      have h1 := HA.out.1
      have h2 := HA.out.2.1
      have h3 := HL.out
      have : cur = flip zs := by
        rw [List.take_of_length_le (by omega), List.take_of_length_le (by rw [flip_length]; omega)] at h2
        exact h2
      rw [← this]
      exact hrow

/-- x as so many bytes of two's complement, the highest first -/
def TStr (N : Nat) (x : Int) (s : ByteArray) : Prop := ∃ ds, Nb.Ok ds ∧ ds.length = N ∧ s = strOfNums ds.reverse ∧ Nb.val ds = (if x < 0 then x + Nb.pw N else x)
/-- it has room -/
def Fits (N : Nat) (x : Int) : Prop := -p2 (8 * N - 1) ≤ x ∧ x < p2 (8 * N - 1)

theorem tstr_one {N : Nat} {x : Int} {s t : ByteArray} (hs : TStr N x s) (ht : TStr N x t) : s = t := by
  obtain ⟨d, h1, h2, h3, h4⟩ := hs
  obtain ⟨e, k1, k2, k3, k4⟩ := ht
  have hv : Nb.vt d N = Nb.vt e N := by
    have a1 : Nb.vt d N = Nb.val d := by rw [← h2]; rfl
    have a2 : Nb.vt e N = Nb.val e := by rw [← k2]; rfl
    rw [a1, a2, h4, k4]
  have : d = e := Nt.ext_lb (h2.trans k2.symm) (fun j hj => Nb.vt_inj h1 k1 hv j (by omega))
  rw [h3, k3, this]

theorem nb_ok_rev {xs : List Int} (h : Nb.Ok xs) : Nb.Ok xs.reverse := by
  intro i
  by_cases hi : i < xs.length
  · rw [lb_reverse hi]; exact h _
  · rw [Nt.lb_out (by rw [List.length_reverse]; omega)]; omega
theorem flip_reverse (l : List Int) : flip l.reverse = (flip l).reverse := by simp [flip]
theorem lb_flip {l : List Int} {i : Nat} (h : i < l.length) : Nt.lb (flip l) i = 255 - Nt.lb l i := by simp [flip, Nt.lb, h]
theorem flip_ok {l : List Int} (h : Nb.Ok l) : Nb.Ok (flip l) := by
  intro i
  by_cases hi : i < l.length
  · have h1 := h i
    have : Nt.lb (flip l) i = 255 - Nt.lb l i := lb_flip hi
    omega
  · rw [Nt.lb_out (by rw [flip_length]; omega)]; omega
theorem flip_vt {l : List Int} : ∀ n, n ≤ l.length → Nb.vt (flip l) n = Nb.pw n - 1 - Nb.vt l n
  | 0, _ => by simp [Nb.vt, Nb.pw]
  | n + 1, h => by
    rw [Nb.vt_succ, Nb.vt_succ, flip_vt n (by omega), Nb.pw_succ, show Nt.lb (flip l) n = 255 - Nt.lb l n from lb_flip (by omega)]
    rw [Int.sub_mul]
    omega
theorem flip_val (l : List Int) : Nb.val (flip l) = Nb.pw l.length - 1 - Nb.val l := by
  have := flip_vt (l := l) l.length (Nat.le_refl _)
  have h2 : Nb.val (flip l) = Nb.vt (flip l) l.length := by rw [← flip_length l]; rfl
  rw [h2, this]; rfl

theorem lb_tail0 {l : List Int} {z i : Nat} : Nt.lb (l ++ List.replicate z 0) i = Nt.lb l i := by
  by_cases h : i < l.length
  · simp [Nt.lb, List.getElem?_append_left h]
  · by_cases h2 : i < l.length + z
    · have h3 : i - l.length < z := by omega
      simp [Nt.lb, List.getElem?_append_right (show l.length ≤ i by omega), List.getElem?_eq_none (show l.length ≤ i by omega), h3]
    · rw [Nt.lb_out (by rw [List.length_append, List.length_replicate]; omega), Nt.lb_out (by omega)]
theorem pad_ok {l : List Int} {z : Nat} (h : Nb.Ok l) : Nb.Ok (l ++ List.replicate z 0) := fun i => by rw [lb_tail0]; exact h i
theorem pad_val {l : List Int} {z : Nat} : Nb.val (l ++ List.replicate z 0) = Nb.val l := by
  have h1 : Nb.val (l ++ List.replicate z 0) = Nb.vt l (l.length + z) := by
    show Nb.vt _ _ = _
    rw [List.length_append, List.length_replicate]
    exact Nb.vt_congr (fun i _ => lb_tail0)
  rw [h1, Nb.vt_out (by omega)]

theorem canon_fits {ds : List Int} {N : Nat} (h : Nb.Canon ds) (hv : Nb.val ds < Nb.pw N) : ds.length ≤ N := by
  rcases Nat.lt_or_ge N ds.length with h1 | h1
  · have h2 := Nb.canon_low h (by intro e; subst e; simp at h1)
    have h3 := Nb.pw_mono (m := N) (n := ds.length - 1) (by omega)
    omega
  · exact h1

theorem isLen_fits {a : Int} {K m : Nat} (h : IsLen a K) : K ≤ m ↔ a < p2 m := by
  constructor
  · intro hk
    have h1 := p2_mono hk
    have h2 := h.1
    omega
  · intro ha
    rcases Nat.lt_or_ge m K with h1 | h1
    · have h2 := h.2 (by omega)
      have h3 := p2_mono (m := m) (n := K - 1) (by omega)
      omega
    · exact h1

theorem cells_of_nums {zs : List Int} (h : Nb.Ok zs) : Lib.byteCells (strOfNums zs).data.toList = zs.map (Value.int .u8) := by
  rw [strOfNums_data]
  simp only [Lib.byteCells, List.map_map]
  apply List.map_congr_left
  intro z hz
  obtain ⟨i, hi, rfl⟩ := List.getElem_of_mem hz
  have h1 := h i
  have h2 : Nt.lb zs i = zs[i] := by simp [Nt.lb, hi]
  rw [h2] at h1
  simp
  omega

theorem Tryz.sizeU8 : (Tryz.prog.info? 5).map (·.size) = some 1 := by kernel_rfl
/-- copy of a string into a row of bytes -/
theorem wpList_copy_str {P : Program} {w : World} {ops : Array Oper} {rest : List Oper} {o : Oper} {a : Act} {Q : Exit → Act → World → Prop} (hgd : o.guard = none) (d s : Operand) (dT sT : TypeId)
    (ho : o.op = .call { callee := .builtin .copy, args := #[d, s], argTypes := #[dT, sT] }) (elem : TypeId) (hu : P.underlying dT = some (.slice elem)) (hsz : (P.info? elem).map (·.size) = some 1)
    (dp : Option Addr) (dLen dCap : Nat) (zs : List Int) (hz : Nb.Ok zs) (hd : a.eval d = .slice dp dLen dCap) (hs : a.eval s = .string (strOfNums zs))
    (g off : Nat) (cur : List Int) (t : TypeId) (hg : Row .u8 t w g cur) (hpos : 0 < zs.length → dp = some ⟨g, off, none⟩) (hle : zs.length ≤ dLen) (hfit : off + zs.length ≤ cur.length)
    (h : ∀ w', Row .u8 t w' g (cur.take off ++ (zs ++ cur.drop (off + zs.length))) → Below g w w' → wpList P ops Q rest (a.put o.dst (goInt zs.length)) w') :
    wpList P ops Q (o :: rest) a w := by
  have hlen : (strOfNums zs).size = zs.length := by simp [strOfNums, ByteArray.size]
  refine wpList_plain hgd fun K hK => ?_
  by_cases h0 : zs.length = 0
  · obtain rfl : zs = [] := List.eq_nil_of_length_eq_zero h0
    have hrun := Lib.run_copy_empty_string (P := P) w dT sT o.type elem dp dLen dCap (strOfNums []) hu (by rw [hsz]; rfl) hlen
    unfold Oper.wp
    simp [execOp, ho, resolve, invoke, builtin, hd, hs, hrun, Result.andThen]
    refine hK _ _ (h w ?_ (Below.refl _ _))
    simpa using hg
  · obtain rfl := hpos (by omega)
    have hrun := Lib.run_copy_row_string (P := P) w dT sT o.type elem g off dLen dCap (strOfNums zs) _ t hu hsz hg (by omega) (by simpa [hlen] using hfit)
    rw [cells_of_nums hz, hlen] at hrun
    unfold Oper.wp
    simp [execOp, ho, resolve, invoke, builtin, hd, hs, hrun, Result.andThen]
    refine hK _ _ (h _ ?_ (below_setRow (Below.refl _ _) (Nat.le_refl _) _))
    have := setRow_heap w g _ ((cur.take off ++ (zs ++ cur.drop (off + zs.length))).map (Value.int .u8)).toArray t _ hg
    unfold Row
    simpa using this

set_option maxRecDepth 20000 in
set_option maxHeartbeats 4000000 in
theorem twos_any {w : World} {v : Value} {x : Int} {k N : Nat} (h : WArg w v x k) (hk : k ≤ 1099511627776) (h1 : 1 ≤ N) (h2 : N ≤ 1048576) :
    Calls Tryz.prog 7 #[v, .int .i64 N] w fun e w' => (∃ s b, e = .returned (.tuple #[.string s, .bool b]) ∧ ((b = true ∧ Fits N x ∧ TStr N x s) ∨ (b = false ∧ ¬ Fits N x ∧ s = ⟨#[]⟩))) ∧ Below w.heap.size w w' := by
  obtain ⟨neg, m, a, rfl, ha, hn⟩ := h
  have A1 := ha
  obtain ⟨zs, ⟨ao, cap, rfl, -⟩, -⟩ := ha
  have N1 := A1.nonneg
  have hs := sg_self hn N1
  have hsl := sg_lt hs
  have Hn := hide hn
  clear hn
  have K1 : Below w.heap.size w (w.alloc (.cells #[.bool neg, .slice ao zs.length cap] 25)) := bel_alloc _ _
  have C1 := cell2_new w (.bool neg) (.slice ao zs.length cap) 25
  replace A1 := A1.below K1
  have HC := hide C1
  have p0 := C1.c0
  have p1 := C1.c1
  clear C1
  go_enter Tryz.func7, Tryz.ntmps7
  go_upto_region 3 with fail
  generalize w.alloc (.cells #[.bool neg, .slice ao zs.length cap] 25) = w1 at *
  have K : Below w1.heap.size w1 w1.drew := (Below.refl _ _).drew
  go_region_held3 (fun w' => w'.cell? ⟨w.heap.size, 0, none⟩ = some (.bool neg) ∧ w'.cell? ⟨w.heap.size, 1, none⟩ = some (.slice ao zs.length cap))
    (first
      | with_reducible exact ⟨(HC.out.below K).c0, (HC.out.below K).c1⟩
      | go_keep)
    (first
      | (go_at_call 22; with_reducible refine (sign_any (A1.below K) Hn.out (by omega)).mono ?_; rintro e w2 ⟨rfl, hb⟩; replace K := below_trans K hb; clear hb))
  have KB := K1.trans (K.mono K1.size)
  replace A1 := A1.below K
  clear K K1 p0 p1 HC
  by_cases hneg : x < 0
  · rw [decide_eq_true hneg] at hsl
    go_wp2_with fail
    with_reducible refine (from_any 1 (by omega) (by omega)).mono ?_
    rintro e w3 ⟨v1, rfl, ho, hb3⟩
    go_wp2_with fail
    have ha1 : 1 ≤ a := by unfold Sg at hs; omega
    with_reducible refine (sub_yes (A1.below hb3) ho.arg (by omega) (by omega) ha1).mono ?_
    rintro e w4 ⟨vs, rfl, hS, hb4⟩
    replace KB := below_trans (below_trans KB hb3) hb4
    clear ho hb3 hb4 A1
    obtain ⟨ys, ⟨so, rfl, -⟩, -⟩ := id hS
    go_wp2_with fail
    with_reducible refine (len_any hS.arg (by omega)).mono ?_
    rintro e w5 ⟨K, rfl, hK, hK2, rfl⟩
    have hKf := isLen_fits (m := 8 * N - 1) hK
    clear hK hK2
    by_cases hfit : K ≤ 8 * N - 1
    · have hlt : a - 1 < p2 (8 * N - 1) := hKf.1 hfit
      have hF : Fits N x := by unfold Fits; unfold Sg at hs; omega
      have q1 : ¬ (8 : Int) * (N : Int) - 1 < (K : Int) := by omega
      clear hKf hfit
      have HF := hide (And.intro hF hlt)
      clear hF hlt
      go_wp2_with (at_make; refine wpList_make_row _ rfl _ _ 73 rfl 5 .u8 1 Tryz.underlying73 Tryz.infoU8 _ _ _ _ N N rfl rfl (by omega) (by omega) (Nat.le_refl _) (by omega) (by unfold maxLen; omega) ?_)
      intro w6 hrow hb6 hz6
      go_wp2_with fail
      with_reducible refine (qbytes_any (hS.arg.below hb6) (by omega)).mono ?_
      rintro e w7 ⟨sb, rfl, ⟨ds, hdc, hdv, hsb⟩, -, hb7⟩
      have hdl : ds.length ≤ N := canon_fits hdc (by have h1 := HF.out.2; have h2 := p2_mono (m := 8 * N - 1) (n := 8 * N) (by omega); rw [p2_8] at h2; omega)
      obtain ⟨rv, hrv⟩ : ∃ rv, rv = ds.reverse := ⟨_, rfl⟩
      rw [← hrv] at hsb
      subst hsb
      obtain ⟨cur, hcur⟩ : ∃ cur, cur = List.replicate N (0 : Int) := ⟨_, rfl⟩
      have hrow7 := hrow.keeps hb7
      rw [← hcur] at hrow7
      have hrl : rv.length = ds.length := by rw [hrv, List.length_reverse]
      have hcl : cur.length = N := by rw [hcur, List.length_replicate]
      have hsz : (((strOfNums rv).size : Nat) : Int) = (ds.length : Int) := by rw [← hrl]; simp [strOfNums, ByteArray.size]
      obtain ⟨off, hoff⟩ : ∃ off, off = N - ds.length := ⟨_, rfl⟩
      have q2 : (N : Int) - (ds.length : Int) = (off : Int) := by omega
      have q4 : (off : Int) ≤ (N : Int) := by omega
      have q5 : (ds.length : Int) ≤ 9223372036854775807 := by omega
      have KB7 := below_trans (below_trans KB hb6) hb7
      have lt7 : w.heap.size ≤ w5.heap.size := KB.size
      have hrok : Nb.Ok rv := by rw [hrv]; exact nb_ok_rev hdc.1
      have hfl : off + rv.length ≤ cur.length := by omega
      have hle : rv.length ≤ N - off := by omega
      have HD := hide (And.intro hdc (And.intro hdv (And.intro hoff (And.intro hrv (And.intro hcur hrl)))))
      have HX := hide (And.intro hrok (And.intro hfl (And.intro hrow7 hle)))
      clear hb6 hb7 KB hrow hdv hoff hdc hdl hrok hfl hrow7 hrv hcur hrl hcl hle
      by_cases hon : off = N
      · have hon' := hon.symm
        subst hon'
        have hrn : rv = [] := by have h1 := HX.out.2.2.2; exact List.eq_nil_of_length_eq_zero (by omega)
        have HRN := hide hrn
        clear hrn
        go_wp2_with (refine wpList_copy_str rfl (.tmp 43) (.tmp 44) 73 9 rfl 5 Tryz.underlying73 Tryz.sizeU8 _ _ _ rv HX.out.1 rfl rfl w5.heap.size N cur 5 HX.out.2.2.1 ?_ ?_ HX.out.2.1 ?_)
        · intro h0; have h1 := HRN.out; rw [h1] at h0; simp at h0
        · have h1 := HX.out.2.2.2
          omega
        intro w8 hr8 hb8
        have hT : cur.take N ++ (rv ++ cur.drop (N + rv.length)) = (ds ++ List.replicate N 0).reverse := by
          have h1 := HD.out.2.2.1
          have h2 := HD.out.2.2.2.2.2
          rw [HD.out.2.2.2.2.1, List.drop_eq_nil_of_le (by first | (simp; done) | (simp; omega)), HD.out.2.2.2.1, List.append_nil, List.reverse_append, List.reverse_replicate, List.take_replicate, Nat.min_eq_left (by omega)]
        rw [hT] at hr8
        have hln : (ds ++ List.replicate N 0).length = N := by have h1 := HD.out.2.2.1; have h2 := HX.out.2.2.2; have h3 := HD.out.2.2.2.2.2; rw [List.length_append, List.length_replicate]; omega
        have hok : Nb.Ok (ds ++ List.replicate N 0) := pad_ok HD.out.1.1
        have hvl : Nb.val (ds ++ List.replicate N 0) = a - 1 := by rw [pad_val]; exact HD.out.2.1
        have KB8 := KB7.trans (hb8.mono lt7)
        clear hb8 KB7 HX HD hT
        generalize ds ++ List.replicate N 0 = es at *
        go_wp2_with fail
        with_reducible refine (turnOver_any hr8 (by rw [List.length_reverse]; exact hln) (nb_ok_rev hok) (by omega)).mono ?_
        rintro e w9 ⟨rfl, hr9, hb9⟩
        rw [flip_reverse] at hr9
        have hcv := row_string (cap := N) hr9
        rw [List.length_reverse, flip_length, hln] at hcv
        have KB9 := KB8.trans (hb9.mono lt7)
        have hts : TStr N x (strOfNums (flip es).reverse) := ⟨flip es, flip_ok hok, by rw [flip_length]; exact hln, rfl, by
          rw [flip_val, hvl, hln, if_pos (by omega)]; unfold Sg at hs; omega⟩
        have HT := hide hts
        clear hts
        go_wp2
        go_ret2
        exact ⟨⟨_, _, rfl, Or.inl ⟨rfl, HF.out.1, HT.out⟩⟩, KB9⟩
      · have q6 : (off : Int) < (N : Int) := by omega
        clear hon
        go_wp2_with (refine wpList_copy_str rfl (.tmp 43) (.tmp 44) 73 9 rfl 5 Tryz.underlying73 Tryz.sizeU8 _ _ _ rv HX.out.1 rfl rfl w5.heap.size off cur 5 HX.out.2.2.1 ?_ ?_ HX.out.2.1 ?_)
        · exact HX.out.2.2.2
        intro w8 hr8 hb8
        have hT : cur.take off ++ (rv ++ cur.drop (off + rv.length)) = (ds ++ List.replicate off 0).reverse := by
          have h1 := HD.out.2.2.1
          have h2 := HD.out.2.2.2.2.2
          rw [HD.out.2.2.2.2.1, List.drop_eq_nil_of_le (by first | (simp; done) | (simp; omega)), HD.out.2.2.2.1, List.append_nil, List.reverse_append, List.reverse_replicate, List.take_replicate, Nat.min_eq_left (by omega)]
        rw [hT] at hr8
        have hln : (ds ++ List.replicate off 0).length = N := by have h1 := HD.out.2.2.1; have h2 := HX.out.2.2.2; have h3 := HD.out.2.2.2.2.2; rw [List.length_append, List.length_replicate]; omega
        have hok : Nb.Ok (ds ++ List.replicate off 0) := pad_ok HD.out.1.1
        have hvl : Nb.val (ds ++ List.replicate off 0) = a - 1 := by rw [pad_val]; exact HD.out.2.1
        have KB8 := KB7.trans (hb8.mono lt7)
        clear hb8 KB7 HX HD hT
        generalize ds ++ List.replicate off 0 = es at *
        go_wp2_with fail
        with_reducible refine (turnOver_any hr8 (by rw [List.length_reverse]; exact hln) (nb_ok_rev hok) (by omega)).mono ?_
        rintro e w9 ⟨rfl, hr9, hb9⟩
        rw [flip_reverse] at hr9
        have hcv := row_string (cap := N) hr9
        rw [List.length_reverse, flip_length, hln] at hcv
        have KB9 := KB8.trans (hb9.mono lt7)
        have hts : TStr N x (strOfNums (flip es).reverse) := ⟨flip es, flip_ok hok, by rw [flip_length]; exact hln, rfl, by
          rw [flip_val, hvl, hln, if_pos (by omega)]; unfold Sg at hs; omega⟩
        have HT := hide hts
        clear hts
        go_wp2
        go_ret2
        exact ⟨⟨_, _, rfl, Or.inl ⟨rfl, HF.out.1, HT.out⟩⟩, KB9⟩
    · have hge : ¬ a - 1 < p2 (8 * N - 1) := fun h => hfit (hKf.2 h)
      have hF : ¬ Fits N x := by unfold Fits; unfold Sg at hs; omega
      have q1 : (8 : Int) * (N : Int) - 1 < (K : Int) := by omega
      have HF := hide hF
      clear hKf hge hF
      go_wp2
      go_ret2
      exact ⟨⟨_, _, rfl, Or.inr ⟨rfl, HF.out, rfl⟩⟩, KB⟩
  · rw [decide_eq_false hneg] at hsl
    go_wp2_with fail
    with_reducible refine (len_any A1.arg (by omega)).mono ?_
    rintro e w5 ⟨K, rfl, hK, hK2, rfl⟩
    have hKf := isLen_fits (m := 8 * N - 1) hK
    clear hK hK2
    by_cases hfit : K ≤ 8 * N - 1
    · have hlt : a < p2 (8 * N - 1) := hKf.1 hfit
      have hF : Fits N x := by unfold Fits; unfold Sg at hs; omega
      have q1 : ¬ (8 : Int) * (N : Int) - 1 < (K : Int) := by omega
      clear hKf hfit
      have HF := hide (And.intro hF hlt)
      clear hF hlt
      go_wp2_with (at_make; refine wpList_make_row _ rfl _ _ 73 rfl 5 .u8 1 Tryz.underlying73 Tryz.infoU8 _ _ _ _ N N rfl rfl (by omega) (by omega) (Nat.le_refl _) (by omega) (by unfold maxLen; omega) ?_)
      intro w6 hrow hb6 hz6
      go_wp2_with fail
      with_reducible refine (qbytes_any (A1.arg.below hb6) (by omega)).mono ?_
      rintro e w7 ⟨sb, rfl, ⟨ds, hdc, hdv, hsb⟩, -, hb7⟩
      have hdl : ds.length ≤ N := canon_fits hdc (by have h1 := HF.out.2; have h2 := p2_mono (m := 8 * N - 1) (n := 8 * N) (by omega); rw [p2_8] at h2; omega)
      obtain ⟨rv, hrv⟩ : ∃ rv, rv = ds.reverse := ⟨_, rfl⟩
      rw [← hrv] at hsb
      subst hsb
      obtain ⟨cur, hcur⟩ : ∃ cur, cur = List.replicate N (0 : Int) := ⟨_, rfl⟩
      have hrow7 := hrow.keeps hb7
      rw [← hcur] at hrow7
      have hrl : rv.length = ds.length := by rw [hrv, List.length_reverse]
      have hcl : cur.length = N := by rw [hcur, List.length_replicate]
      have hsz : (((strOfNums rv).size : Nat) : Int) = (ds.length : Int) := by rw [← hrl]; simp [strOfNums, ByteArray.size]
      obtain ⟨off, hoff⟩ : ∃ off, off = N - ds.length := ⟨_, rfl⟩
      have q2 : (N : Int) - (ds.length : Int) = (off : Int) := by omega
      have q4 : (off : Int) ≤ (N : Int) := by omega
      have q5 : (ds.length : Int) ≤ 9223372036854775807 := by omega
      have KB7 := below_trans (below_trans KB hb6) hb7
      have lt7 : w.heap.size ≤ w5.heap.size := KB.size
      have hrok : Nb.Ok rv := by rw [hrv]; exact nb_ok_rev hdc.1
      have hfl : off + rv.length ≤ cur.length := by omega
      have hle : rv.length ≤ N - off := by omega
      have HD := hide (And.intro hdc (And.intro hdv (And.intro hoff (And.intro hrv (And.intro hcur hrl)))))
      have HX := hide (And.intro hrok (And.intro hfl (And.intro hrow7 hle)))
      clear hb6 hb7 KB hrow hdv hoff hdc hdl hrok hfl hrow7 hrv hcur hrl hcl hle
      by_cases hon : off = N
      · have hon' := hon.symm
        subst hon'
        have hrn : rv = [] := by have h1 := HX.out.2.2.2; exact List.eq_nil_of_length_eq_zero (by omega)
        have HRN := hide hrn
        clear hrn
        go_wp2_with (refine wpList_copy_str rfl (.tmp 43) (.tmp 44) 73 9 rfl 5 Tryz.underlying73 Tryz.sizeU8 _ _ _ rv HX.out.1 rfl rfl w5.heap.size N cur 5 HX.out.2.2.1 ?_ ?_ HX.out.2.1 ?_)
        · intro h0; have h1 := HRN.out; rw [h1] at h0; simp at h0
        · have h1 := HX.out.2.2.2
          omega
        intro w8 hr8 hb8
        have hT : cur.take N ++ (rv ++ cur.drop (N + rv.length)) = (ds ++ List.replicate N 0).reverse := by
          have h1 := HD.out.2.2.1
          have h2 := HD.out.2.2.2.2.2
          rw [HD.out.2.2.2.2.1, List.drop_eq_nil_of_le (by first | (simp; done) | (simp; omega)), HD.out.2.2.2.1, List.append_nil, List.reverse_append, List.reverse_replicate, List.take_replicate, Nat.min_eq_left (by omega)]
        rw [hT] at hr8
        have hln : (ds ++ List.replicate N 0).length = N := by have h1 := HD.out.2.2.1; have h2 := HX.out.2.2.2; have h3 := HD.out.2.2.2.2.2; rw [List.length_append, List.length_replicate]; omega
        have hok : Nb.Ok (ds ++ List.replicate N 0) := pad_ok HD.out.1.1
        have hvl : Nb.val (ds ++ List.replicate N 0) = a := by rw [pad_val]; exact HD.out.2.1
        have KB8 := KB7.trans (hb8.mono lt7)
        clear hb8 KB7 HX HD hT
        generalize ds ++ List.replicate N 0 = es at *
        have hcv := row_string (cap := N) hr8
        rw [List.length_reverse, hln] at hcv
        have hts : TStr N x (strOfNums es.reverse) := ⟨es, hok, hln, rfl, by
          rw [hvl, if_neg (by omega)]; unfold Sg at hs; omega⟩
        have HT := hide hts
        clear hts
        go_wp2
        go_ret2
        exact ⟨⟨_, _, rfl, Or.inl ⟨rfl, HF.out.1, HT.out⟩⟩, KB8⟩
      · have q6 : (off : Int) < (N : Int) := by omega
        clear hon
        go_wp2_with (refine wpList_copy_str rfl (.tmp 43) (.tmp 44) 73 9 rfl 5 Tryz.underlying73 Tryz.sizeU8 _ _ _ rv HX.out.1 rfl rfl w5.heap.size off cur 5 HX.out.2.2.1 ?_ ?_ HX.out.2.1 ?_)
        · exact HX.out.2.2.2
        intro w8 hr8 hb8
        have hT : cur.take off ++ (rv ++ cur.drop (off + rv.length)) = (ds ++ List.replicate off 0).reverse := by
          have h1 := HD.out.2.2.1
          have h2 := HD.out.2.2.2.2.2
          rw [HD.out.2.2.2.2.1, List.drop_eq_nil_of_le (by first | (simp; done) | (simp; omega)), HD.out.2.2.2.1, List.append_nil, List.reverse_append, List.reverse_replicate, List.take_replicate, Nat.min_eq_left (by omega)]
        rw [hT] at hr8
        have hln : (ds ++ List.replicate off 0).length = N := by have h1 := HD.out.2.2.1; have h2 := HX.out.2.2.2; have h3 := HD.out.2.2.2.2.2; rw [List.length_append, List.length_replicate]; omega
        have hok : Nb.Ok (ds ++ List.replicate off 0) := pad_ok HD.out.1.1
        have hvl : Nb.val (ds ++ List.replicate off 0) = a := by rw [pad_val]; exact HD.out.2.1
        have KB8 := KB7.trans (hb8.mono lt7)
        clear hb8 KB7 HX HD hT
        generalize ds ++ List.replicate off 0 = es at *
        have hcv := row_string (cap := N) hr8
        rw [List.length_reverse, hln] at hcv
        have hts : TStr N x (strOfNums es.reverse) := ⟨es, hok, hln, rfl, by
          rw [hvl, if_neg (by omega)]; unfold Sg at hs; omega⟩
        have HT := hide hts
        clear hts
        go_wp2
        go_ret2
        exact ⟨⟨_, _, rfl, Or.inl ⟨rfl, HF.out.1, HT.out⟩⟩, KB8⟩
    · have hge : ¬ a < p2 (8 * N - 1) := fun h => hfit (hKf.2 h)
      have hF : ¬ Fits N x := by unfold Fits; unfold Sg at hs; omega
      have q1 : (8 : Int) * (N : Int) - 1 < (K : Int) := by omega
      have HF := hide hF
      clear hKf hge hF
      go_wp2
      go_ret2
      exact ⟨⟨_, _, rfl, Or.inr ⟨rfl, HF.out, rfl⟩⟩, KB⟩

end Go.Proofs.YtejenbkhhcjeaaaGreatDoor

namespace Go.Proofs.YtejenbkhhcjeaaaGreatDoor
open Go.RowKit

theorem canon_split : ∀ (n : Nat) (es : List Int), es.length = n → Nb.Ok es → ∃ ds z, es = ds ++ List.replicate z 0 ∧ Nb.Canon ds
  | 0, es, hl, _ => ⟨[], 0, by simp [List.eq_nil_of_length_eq_zero hl], Nb.canon_nil⟩
  | n + 1, es, hl, ho => by
    rcases List.eq_nil_or_concat es with h | ⟨l, b, h⟩
    · subst h; simp at hl
    · rw [List.concat_eq_append] at h
      subst h
      have hll : l.length = n := by simpa using hl
      have lb_l : ∀ i, i < l.length → Nt.lb (l ++ [b]) i = Nt.lb l i := fun i hi => by simp [Nt.lb, List.getElem?_append_left hi]
      have lb_b : Nt.lb (l ++ [b]) l.length = b := by simp [Nt.lb]
      by_cases hb : b = 0
      · obtain ⟨ds, z, h1, h2⟩ := canon_split n l hll (fun i => by
          by_cases hi : i < l.length
          · rw [← lb_l i hi]; exact ho i
          · rw [Nt.lb_out (by omega)]; omega)
        refine ⟨ds, z + 1, ?_, h2⟩
        rw [h1, hb, List.append_assoc]
        congr 1
        rw [List.replicate_succ']
      · exact ⟨l ++ [b], 0, by simp, ho, fun _ => by rw [show (l ++ [b]).length - 1 = l.length by simp, lb_b]; exact hb⟩

/-- the first byte is not 0 -/
theorem nums_first {ds : List Int} (d1 : Nb.Canon ds) (h : 0 < (strOfNums ds.reverse).size) : ((((strOfNums ds.reverse)[0]'h).toNat : Nat) : Int) ≠ 0 := by
  have hp : 0 < ds.length := by rw [strOfNums_size, List.length_reverse] at h; exact h
  have h2 := d1.2 (List.length_pos_iff.1 hp)
  rw [strOfNums_at h (by rw [lb_reverse hp]; exact d1.1 _), lb_reverse hp, Nat.sub_zero]
  exact h2
/-- noughts ahead say nothing -/
theorem nums_drop0 {ds : List Int} (hd : Nb.Canon ds) (z : Nat) : (strOfNums (List.replicate z 0) ++ strOfNums ds.reverse).data.toList.dropWhile (· == 0) = (strOfNums ds.reverse).data.toList := by
  have e : (strOfNums (List.replicate z 0) ++ strOfNums ds.reverse).data.toList = List.replicate z 0 ++ (strOfNums ds.reverse).data.toList := by
    simp [strOfNums]
  rw [e]
  have h1 : ∀ z : Nat, (List.replicate z (0 : UInt8) ++ (strOfNums ds.reverse).data.toList).dropWhile (· == 0) = (strOfNums ds.reverse).data.toList.dropWhile (· == 0) := by
    intro z
    induction z with
    | zero => simp
    | succ z _ => rw [List.replicate_succ, List.cons_append, List.dropWhile_cons]; simp
  rw [h1]
  by_cases h : ds = []
  · subst h; rfl
  · have hp := List.length_pos_iff.2 h
    have h0 : 0 < (strOfNums ds.reverse).size := by rw [strOfNums_size, List.length_reverse]; exact hp
    have hf := nums_first hd h0
    have hu := bytes_uncons h0
    have hne : ¬ (strOfNums ds.reverse)[0] = 0 := fun e => hf (by rw [e]; rfl)
    rw [hu, List.dropWhile_cons]
    simp [hne]

theorem nums_drop {es : List Int} (ho : Nb.Ok es) : ∃ ds, Nb.Canon ds ∧ Nb.val ds = Nb.val es ∧ ds.length ≤ es.length ∧ (strOfNums es.reverse).data.toList.dropWhile (· == 0) = (strOfNums ds.reverse).data.toList := by
  obtain ⟨ds, z, rfl, hc⟩ := canon_split _ es rfl ho
  refine ⟨ds, hc, pad_val.symm, by simp, ?_⟩
  rw [← nums_drop0 hc z, List.reverse_append, List.reverse_replicate]
  congr 1
  simp [strOfNums]

theorem bytes_full {s : ByteArray} (h : 0 < s.size) : s.toList.isEmpty = false := by
  rw [ByteArray.toList_eq]
  cases hl : s.data.toList with
  | nil =>
    exfalso
    have h1 : s.data.size = 0 := by rw [← Array.length_toList, hl]; rfl
    have h2 : s.size = s.data.size := rfl
    omega
  | cons _ _ => rfl
theorem nt_pad_val {l : List Int} {z : Nat} : Nt.val (l ++ List.replicate z 0) = Nt.val l := by
  have h1 : Nt.val (l ++ List.replicate z 0) = Nt.vt l (l.length + z) := by
    show Nt.vt _ _ = _
    rw [List.length_append, List.length_replicate]
    exact Nt.vt_congr (fun i _ => lb_tail0)
  rw [h1, Nt.vt_out (by omega)]
theorem nt_pad_ok {l : List Int} {z : Nat} (h : Nt.Ok l) : Nt.Ok (l ++ List.replicate z 0) := fun i => by rw [lb_tail0]; exact h i
/-- bytes that lie in a block from its start on -/
def Seg (w : World) (g : Nat) (zs : List Int) : Prop := ∀ i, i < zs.length → w.cell? ⟨g, i, none⟩ = some (.int .u8 (Nt.lb zs i)) ∧ w.frozen? ⟨g, i, none⟩ = false
theorem Seg.set {w : World} {g : Nat} {zs : List Int} (h : Seg w g zs) {i : Nat} (hi : i < zs.length) (v : Int) : Seg (w.setCell ⟨g, i, none⟩ (.int .u8 v)) g (zs.set i v) := by
  intro j hj
  rw [List.length_set] at hj
  refine ⟨?_, by simpa using (h j hj).2⟩
  by_cases e : i = j
  · subst e
    rw [World.cell?_setCell_same _ _ _ (h i hi).1, Nt.lb_set_eq hi]
  · rw [World.cell?_setCell_other _ _ _ _ (by intro e'; injection e' with _ e' _; exact e e'), Nt.lb_set_ne (by omega)]
    exact (h j hj).1
set_option maxHeartbeats 2000000 in
theorem turnOver_seg {w : World} {g N C : Nat} {zs : List Int} (hr : Seg w g zs) (hl : zs.length = N) (ho : Nb.Ok zs) (hN : N ≤ 1099511627776) :
    Calls Tryz.prog 27 #[.slice (some ⟨g, 0, none⟩) N C] w fun e w' => e = .returned (.tuple #[]) ∧ Seg w' g (flip zs) ∧ Below g w w' := by
  have HL := hide hl
  clear hl
  go_enter Tryz.func27, Tryz.ntmps27
  go_wp2
  go_loopw [5] (fun i wr => ∃ (k : Nat) (cur : List Int), k ≤ N ∧ i = .int .i64 k ∧ cur.length = zs.length ∧ cur.take k = (flip zs).take k ∧ (∀ i, k ≤ i → Nt.lb cur i = Nt.lb zs i) ∧ Seg wr g cur ∧ Below g w wr) (fun i _ => N - (intOf i).toNat)
  case atStart => exact ⟨0, zs, by omega, rfl, rfl, by simp, fun _ _ => rfl, hr, Below.refl _ _⟩
  case round =>
    obtain ⟨k, cur, hk, rfl, hcl, hct, hcr, hrow, hbr⟩ := hrel
    have hkk := hcr k (Nat.le_refl _)
    have HA := hide (And.intro hcl (And.intro hct hcr))
    clear hcl hct hcr hr
    by_cases hkN : k < N
    · have hkc : k < cur.length := by have := HA.out.1; have := HL.out; omega
      have g1 := (hrow k hkc).1
      have hfz := (hrow k hkc).2
      have HKC := hide hkc
      clear hkc
      have bk := ho k
      rw [hkk] at g1
      clear hkk
      have b0 : 0 ≤ Nt.lb zs k := bk.1
      have b1 : Nt.lb zs k < 256 := bk.2
      have hfl := hide (flip8 b0 b1)
      go_wp2
      rw [hfl.out]
      go_roundw
      case rel => 
        have hstep := flip_set HA.out.1 (by have := HL.out; omega) HA.out.2.1 HA.out.2.2 (y := 255 - Nt.lb zs k) rfl
        exact ⟨k + 1, cur.set k (255 - Nt.lb zs k), by omega, by go_num, by rw [List.length_set, HA.out.1], hstep.1, hstep.2, hrow.set HKC.out _, hbr.setCell (p := ⟨g, k, none⟩) (Nat.le_refl _) _⟩
      case measure => simp [intOf]; omega
    · go_wp2
      go_returns
      refine ⟨rfl, ?_, hbr⟩
      have h1 := HA.out.1
      have h2 := HA.out.2.1
      have h3 := HL.out
      have : cur = flip zs := by
        rw [List.take_of_length_le (by omega), List.take_of_length_le (by rw [flip_length]; omega)] at h2
        exact h2
      rw [← this]
      exact hrow

set_option maxRecDepth 20000 in
set_option maxHeartbeats 4000000 in
theorem natural_any {w : World} {es : List Int} {s : ByteArray} {N : Nat} (ho : Nb.Ok es) (hs : s = strOfNums es.reverse) (hN : es.length = N) (hl : N < 1048576) :
    Calls Tryz.prog 38 #[.string s] w fun e w' => ∃ v, e = .returned v ∧ Num w.heap.size w' v (Nb.val es) ((N + 3) / 4) ∧ Below w.heap.size w w' := by
  obtain ⟨M, hM⟩ : ∃ M, M = (N + 3) / 4 := ⟨_, rfl⟩
  have j1 : ((N : Int) + 3) / 4 = (M : Int) := by omega
  have hsz : s.size = N := by rw [hs, strOfNums_size, List.length_reverse, hN]
  obtain ⟨ds, d1, d2, d3, d4⟩ := nums_drop ho
  rw [← hs] at d4
  have HD := hide (And.intro d1 (And.intro d2 (And.intro d3 d4)))
  have HM := hide hM
  have HN := hide hN
  have HS := hide hs
  rw [← hM]
  clear d1 d2 d3 d4 hM hN hs ho
  go_enter Tryz.func38, Tryz.ntmps38
  go_wp2_with (at_make; refine wpList_make_row _ rfl _ _ 23 rfl 41 .u32 4 Tryz.underlying23 Tryz.infoU32 _ _ _ _ M M rfl rfl (by omega) (by omega) (Nat.le_refl _) (by have := HM.out; omega) (by have := HM.out; unfold maxLen; omega) ?_)
  intro w1 hr hbel hsz1
  go_wp2
  go_loopw [0, 4] (fun sv at' wr => ((sv = .string s ∧ at' = .int .i64 0 ∧ 0 < N ∧ Row .u32 41 wr w.heap.size (List.replicate M 0)) ∨ (sv = .string ⟨#[]⟩ ∧ (∃ t : Int, at' = .int .i64 t) ∧ ∃ zs, Nt.Ok zs ∧ zs.length = M ∧ Nt.val zs = Nb.val es ∧ Row .u32 41 wr w.heap.size zs)) ∧ Below w.heap.size w wr) (fun sv _ _ => match sv with | .string b => b.size | _ => 0)
  case atStart =>
    refine ⟨?_, hbel⟩
    by_cases h0 : N = 0
    · right
      have e1 : es = [] := List.eq_nil_of_length_eq_zero (by rw [HN.out]; exact h0)
      have e2 : s = ⟨#[]⟩ := by rw [HS.out, e1]; rfl
      exact ⟨by rw [e2], ⟨0, rfl⟩, List.replicate M 0, Nt.ok_replicate _, by simp, by rw [Nt.val_replicate, e1]; rfl, hr⟩
    · left
      exact ⟨rfl, rfl, by omega, hr⟩
  case round =>
    obtain ⟨hrel, hbr⟩ := hrel
    clear hr hbel
    rcases hrel with ⟨rfl, rfl, hN0, hrow⟩ | ⟨rfl, ⟨t, rfl⟩, zs, hzo, hzl, hzv, hrow⟩
    · have hne : ¬ s = ⟨#[]⟩ := fun e => by rw [e] at hsz; simp [ByteArray.size] at hsz; omega
      have hemp : s.toList.isEmpty = false := bytes_full (by omega)
      have hex : s.extract 0 N = s := by rw [← hsz]; exact ByteArray.extract_zero_size
      have hmx : ¬ (0 : Int) ≤ (N : Int) - 1048576 := by omega
      clear hne
      go_wp2_with fail
      with_reducible refine (qfrom_any HD.out.1 rfl (by omega) (by have := HD.out.2.2.1; have := HN.out; omega) HD.out.2.2.2).mono ?_
      rintro e w2 ⟨pv, rfl, ⟨ps, hm, hpc, hpv, hpl⟩, kb⟩
      obtain ⟨ao, cap, rfl, r1, r2, hcell⟩ := hm.reads
      have hplM : ps.length ≤ M := by have := HD.out.2.2.1; have := HN.out; have := HM.out; omega
      have hr2 := hrow.keeps kb
      have hb2 := below_trans hbr kb
      obtain ⟨ls, hls⟩ : ∃ ls, (List.replicate M (0 : Int)).take 0 ++ (ps ++ (List.replicate M (0 : Int)).drop (0 + ps.length)) = ls := ⟨_, rfl⟩
      have hlsF : Nt.Ok ls ∧ ls.length = M ∧ Nt.val ls = Nb.val es := by
        rw [← hls, List.take_zero, List.nil_append, Nat.zero_add, List.drop_replicate]
        exact ⟨nt_pad_ok hpc.1, by rw [List.length_append, List.length_replicate]; omega, by rw [nt_pad_val, hpv, HD.out.2.1]⟩
      have HF := hide hlsF
      have HLS := hide hls
      have HC := hide hcell
      have HR2 := hide hr2
      clear hm hpc hpv hpl hrow hbr kb hls hlsF hcell hr2
      go_wp2_with (refine wpList_copy_row rfl (.tmp 30) (.tmp 31) rfl (some ⟨w.heap.size, 0, none⟩) ao M M ps.length cap rfl rfl w.heap.size 0 (List.replicate M 0) ps HR2.out (fun _ => rfl) HC.out rfl (by omega) (by rw [List.length_replicate]; omega) w hb2 ls HLS.out ?_)
      intro w3 hr3 hb3
      have HR3 := hide hr3
      clear hr3 HR2 HC HLS hb2
      go_wp2
      go_roundw
      case rel => exact ⟨Or.inr ⟨rfl, ⟨_, rfl⟩, ls, HF.out.1, HF.out.2.1, HF.out.2.2, HR3.out⟩, hb3⟩
      case measure => (show (0 : Nat) < s.size; omega)
    · have HF := hide (And.intro hzo (And.intro hzl hzv))
      have hmd := hrow.made (Nat.le_refl _) (n := M) (by omega) (by have := HM.out; unfold maxLen; omega)
      have harg : Arg wr (.slice (some ⟨w.heap.size, 0, none⟩) M M) (Nb.val es) M := ⟨zs, by have h := hmd.reads; rw [List.take_of_length_le (by omega)] at h; exact h, hzo, hzv, by omega⟩
      have HA := hide harg
      clear hzo hzl hzv hmd harg
      go_wp2_with fail
      with_reducible refine (norm_any HA.out (by have := HM.out; omega)).mono ?_
      rintro e w2 ⟨v, rfl, hV, kb⟩
      have HV := hide (hV.low hbr.size)
      clear hV
      go_wp2
      go_ret
      exact ⟨_, rfl, HV.out, below_trans hbr kb⟩

theorem Num.form' {B : Nat} {w : World} {v : Value} {n : Int} {k : Nat} (h : Num B w v n k) : ∃ ao L, v = .slice ao L L := by
  obtain ⟨zs, ⟨ao, rfl, _⟩, _⟩ := h
  exact ⟨ao, _, rfl⟩
/-- the number of bytes of two's complement, the lowest first -/
def twv (es : List Int) : Int := if 128 ≤ Nt.lb es (es.length - 1) then Nb.val es - Nb.pw es.length else Nb.val es

theorem seg_bytes {w : World} {es : List Int} (ho : Nb.Ok es) (C : Nat) (x : Nat × Nat) (hx : es.length ≤ x.1) : Seg (w.drew.alloc (.cells (bytesRow (strOfNums es) C) 5 x)) w.heap.size es := by
  intro i hi
  have hb : (w.drew.alloc (.cells (bytesRow (strOfNums es) C) 5 x)).heap[w.heap.size]? = some (.cells (bytesRow (strOfNums es) C) 5 x) := by
    show (w.heap.push _)[w.heap.size]? = _
    simp
  have hv := ho i
  have e : Nt.lb es i = es[i] := by simp [Nt.lb, hi]
  rw [e] at hv ⊢
  constructor
  · simp only [World.cell?, hb]
    simp [bytesRow, strOfNums, hi, Array.getElem?_append]
    omega
  · simp only [World.frozen?, hb]
    simp
    omega

set_option maxRecDepth 20000 in
set_option maxHeartbeats 4000000 in
theorem fromtwos_any {w : World} {es : List Int} {s : ByteArray} {N : Nat} (ho : Nb.Ok es) (hs : s = strOfNums es.reverse) (hN : es.length = N) (hl : N < 1048576) :
    Calls Tryz.prog 11 #[.string s] w fun e w' => ∃ v, e = .returned v ∧ WNum w.heap.size w' v (twv es) ((N + 3) / 4 + 3) ∧ Below w.heap.size w w' := by
  have hsz : s.size = N := by rw [hs, strOfNums_size, List.length_reverse, hN]
  have HO := hide ho
  have HN := hide hN
  have HS := hide hs
  clear ho hN hs
  go_enter Tryz.func11, Tryz.ntmps11
  go_upto_region 1 with fail
  have D := cell2_new w (.bool false) (.slice none 0 0) 25
  have K1 := bel_alloc w (.cells #[.bool false, .slice none 0 0] 25)
  have ltb : w.heap.size < (w.alloc (.cells #[.bool false, .slice none 0 0] 25)).heap.size := D.lt
  generalize w.alloc (.cells #[.bool false, .slice none 0 0] 25) = w1 at *
  by_cases hc : N = 0
  · have e1 : es = [] := List.eq_nil_of_length_eq_zero (by rw [HN.out]; exact hc)
    have e2 : s = ⟨#[]⟩ := by rw [HS.out, e1]; rfl
    subst e2
    have hemp : (⟨#[]⟩ : ByteArray).toList.isEmpty = true := by rw [ByteArray.toList_eq]; rfl
    go_wp2_with fail
    with_reducible refine (natural_any HO.out HS.out HN.out hl).mono ?_
    rintro e w2 ⟨v2, rfl, h2, K⟩
    obtain ⟨ao2, l2, rfl⟩ := h2.form'
    go_wp2_with fail
    with_reducible refine (number_any h2 (s := 1) (by omega)).mono ?_
    rintro e w3 ⟨v3, rfl, h3, kb⟩
    replace K := below_trans K kb
    obtain ⟨rg, ro, rl, rfl⟩ := h3.told
    have HV : Hid (WNum w1.heap.size w3 (.agg #[.bool rg, .slice ro rl rl]) (twv es) ((N + 3) / 4 + 3)) := hide (by
      have hv : twv es = (if (1 : Int) = -1 then -Nb.val es else Nb.val es) := by subst e1; rfl
      rw [hv]; exact h3.mono (by omega))
    clear h2 h3 kb
    have d0 := (D.below K).c0; have d1 := (D.below K).c1; have g0 := (D.below K).f0; have g1 := (D.below K).f1
    go_wp2
    have PD := (D.below K).put (.bool rg) (.slice ro rl rl)
    have KB := below_put2 (b := w.heap.size) (below_trans K1 K) (Nat.le_refl _) (.bool rg) (.slice ro rl rl)
    have WN := ((HV.out.put ltb 0 (.bool rg)).put ltb 1 (.slice ro rl rl)).low (B' := w.heap.size) (by omega)
    clear d0 d1 g0 g1 HV
    generalize (w3.setCell ⟨w.heap.size, 0, none⟩ (.bool rg)).setCell ⟨w.heap.size, 1, none⟩ (.slice ro rl rl) = w9 at *
    (try simp only [Exit.inBlock, Exit.then])
    exact bodyPost_ret (v := .agg #[.bool rg, .slice ro rl rl]) (by simp [results, Tryz.results11, go_sem, PD.c0, PD.c1]) rfl ⟨_, rfl, WN, KB⟩
  · have hp : 0 < s.size := by omega
    have hp2 : (0 : Int) < (N : Int) := by omega
    have hne : ¬ s = ⟨#[]⟩ := fun e => by rw [e] at hsz; simp [ByteArray.size] at hsz; omega
    have hemp : s.toList.isEmpty = false := bytes_full hp
    clear hne
    have hix : (((s[0]'hp).toNat : Nat) : Int) = Nt.lb es (N - 1) := by
      have h0 : 0 < es.length := by rw [HN.out]; omega
      have hz := HS.out
      subst hz
      rw [strOfNums_at hp (by rw [lb_reverse h0]; exact HO.out _), lb_reverse h0, HN.out, Nat.sub_zero]
    have hb := HO.out (N - 1)
    obtain ⟨y, hy⟩ : ∃ y, y = Nt.lb es (N - 1) := ⟨_, rfl⟩
    rw [← hy] at hix hb
    have HY := hide hy
    clear hy
    by_cases ht : y < 128
    · go_wp2_with fail
      with_reducible refine (natural_any HO.out HS.out HN.out hl).mono ?_
      rintro e w2 ⟨v2, rfl, h2, K⟩
      obtain ⟨ao2, l2, rfl⟩ := h2.form'
      go_wp2_with fail
      with_reducible refine (number_any h2 (s := 1) (by omega)).mono ?_
      rintro e w3 ⟨v3, rfl, h3, kb⟩
      replace K := below_trans K kb
      obtain ⟨rg, ro, rl, rfl⟩ := h3.told
      have HV : Hid (WNum w1.heap.size w3 (.agg #[.bool rg, .slice ro rl rl]) (twv es) ((N + 3) / 4 + 3)) := hide (by
        have hv : twv es = (if (1 : Int) = -1 then -Nb.val es else Nb.val es) := by have hy := HY.out; have hn := HN.out; unfold twv; rw [hn, ← hy, if_neg (by omega), if_neg (by omega)]
        rw [hv]; exact h3.mono (by omega))
      clear h2 h3 kb
      have d0 := (D.below K).c0; have d1 := (D.below K).c1; have g0 := (D.below K).f0; have g1 := (D.below K).f1
      go_wp2
      have PD := (D.below K).put (.bool rg) (.slice ro rl rl)
      have KB := below_put2 (b := w.heap.size) (below_trans K1 K) (Nat.le_refl _) (.bool rg) (.slice ro rl rl)
      have WN := ((HV.out.put ltb 0 (.bool rg)).put ltb 1 (.slice ro rl rl)).low (B' := w.heap.size) (by omega)
      clear d0 d1 g0 g1 HV
      generalize (w3.setCell ⟨w.heap.size, 0, none⟩ (.bool rg)).setCell ⟨w.heap.size, 1, none⟩ (.slice ro rl rl) = w9 at *
      (try simp only [Exit.inBlock, Exit.then])
      exact bodyPost_ret (v := .agg #[.bool rg, .slice ro rl rl]) (by simp [results, Tryz.results11, go_sem, PD.c0, PD.c1]) rfl ⟨_, rfl, WN, KB⟩
    · have hcb := run_bytes_of_string (P := Tryz.prog) w1 9 73 5 s Tryz.underlying9 Tryz.underlying73 Tryz.underlying5
      obtain ⟨C, hC⟩ : ∃ C, C = grownCap w1 s.size 0 5 := ⟨_, rfl⟩
      rw [← hC, hsz] at hcb
      clear hC
      go_upto_region 4 with fail
      have K2 : Below w1.heap.size w1 (w1.alloc (Obj.cells (bytesRow s C) 5 ((bytesRow s C).size, (bytesRow s C).size + 1))).drew := (bel_alloc _ _).drew
      have SG : Seg (w1.alloc (Obj.cells (bytesRow s C) 5 ((bytesRow s C).size, (bytesRow s C).size + 1))).drew w1.heap.size es.reverse := by
        have h := seg_bytes (w := w1) (nb_ok_rev HO.out) C ((bytesRow s C).size, (bytesRow s C).size + 1) (by rw [HS.out]; simp [bytesRow, strOfNums])
        rw [← HS.out] at h
        exact h
      generalize (w1.alloc (Obj.cells (bytesRow s C) 5 ((bytesRow s C).size, (bytesRow s C).size + 1))).drew = w2 at *
      clear hcb
      go_wp2_with fail
      with_reducible refine (turnOver_seg SG (by rw [List.length_reverse]; exact HN.out) (nb_ok_rev HO.out) (by omega)).mono ?_
      rintro e w3 ⟨rfl, S3, kb⟩
      have K3 : Below w1.heap.size w1 w3 := K2.trans kb
      rw [flip_reverse] at S3
      have hcv := run_convert_bytes_arg (P := Tryz.prog) w3 73 5 Tryz.underlying73 Tryz.underlying5 w1.heap.size 0 N C (flip es).reverse (by rw [List.length_reverse, flip_length]; exact HN.out) (fun i hi => by rw [Nat.zero_add]; exact (S3 i (by rw [List.length_reverse, flip_length, HN.out]; exact hi)).1) 9 Tryz.underlying9
      clear S3 SG K2 kb
      go_wp2_with fail
      with_reducible refine (natural_any (flip_ok HO.out) rfl (by rw [flip_length]; exact HN.out) hl).mono ?_
      rintro e w4 ⟨v4, rfl, h4, kb⟩
      replace K3 := below_trans K3 kb
      clear kb hcv
      go_wp2_with fail
      with_reducible refine (from_any 1 (by omega) (by omega)).mono ?_
      rintro e w5 ⟨v5, rfl, h5, kb⟩
      replace h4 := h4.below kb
      replace K3 := below_trans K3 kb
      clear kb
      go_wp2_with fail
      with_reducible refine (add_any h4.arg h5.arg (by omega) (by omega)).mono ?_
      rintro e w6 ⟨v6, rfl, h6, kb⟩
      have K6 := below_trans K3 kb
      have h7 := h6.low (B' := w1.heap.size) K3.size
      clear h4 h5 h6 kb K3
      go_wp2_with fail
      with_reducible refine (number_any h7 (s := -1) (by omega)).mono ?_
      rintro e w7 ⟨v7, rfl, h8, kb⟩
      have K := below_trans K6 kb
      obtain ⟨rg, ro, rl, rfl⟩ := h8.told
      have HV : Hid (WNum w1.heap.size w7 (.agg #[.bool rg, .slice ro rl rl]) (twv es) ((N + 3) / 4 + 3)) := hide (by
        have hv : twv es = (if (-1 : Int) = -1 then -(Nb.val (flip es) + 1) else Nb.val (flip es) + 1) := by
          have hy := HY.out; have hn := HN.out
          unfold twv
          rw [hn, ← hy, if_pos (by omega), if_pos rfl, flip_val, hn]
          omega
        rw [hv]; exact h8.mono (by omega))
      clear h7 h8 kb K6
      have d0 := (D.below K).c0; have d1 := (D.below K).c1; have g0 := (D.below K).f0; have g1 := (D.below K).f1
      go_wp2
      have PD := (D.below K).put (.bool rg) (.slice ro rl rl)
      have KB := below_put2 (b := w.heap.size) (below_trans K1 K) (Nat.le_refl _) (.bool rg) (.slice ro rl rl)
      have WN := ((HV.out.put ltb 0 (.bool rg)).put ltb 1 (.slice ro rl rl)).low (B' := w.heap.size) (by omega)
      clear d0 d1 g0 g1 HV
      generalize (w7.setCell ⟨w.heap.size, 0, none⟩ (.bool rg)).setCell ⟨w.heap.size, 1, none⟩ (.slice ro rl rl) = w9 at *
      (try simp only [Exit.inBlock, Exit.then])
      exact bodyPost_ret (v := .agg #[.bool rg, .slice ro rl rl]) (by simp [results, Tryz.results11, go_sem, PD.c0, PD.c1]) rfl ⟨_, rfl, WN, KB⟩

end Go.Proofs.YtejenbkhhcjeaaaGreatDoor

namespace Go.Proofs.YtejenbkhhcjeaaaGreatDoor
open Go.RowKit

theorem p2_top {N : Nat} (h : 1 ≤ N) : p2 (8 * N - 1) = 128 * Nb.pw (N - 1) := by
  rw [show 8 * N - 1 = 8 * (N - 1) + 7 by omega, ← p2_8]
  simp only [p2]
  omega
/-- the highest byte apart -/
theorem nb_top {es : List Int} {N : Nat} (ho : Nb.Ok es) (hN : es.length = N) (h : 1 ≤ N) : ∃ r b, 0 ≤ r ∧ r < Nb.pw (N - 1) ∧ b = Nt.lb es (N - 1) ∧ 0 ≤ b ∧ b < 256 ∧ Nb.val es = r + b * Nb.pw (N - 1) ∧ Nb.pw N = 256 * Nb.pw (N - 1) := by
  obtain ⟨m, rfl⟩ : ∃ m, N = m + 1 := ⟨N - 1, by omega⟩
  have hv : Nb.val es = Nb.vt es (m + 1) := by rw [← hN]; rfl
  have hb := Nb.vt_bounds ho m
  have hy := ho m
  exact ⟨Nb.vt es m, Nt.lb es m, hb.1, hb.2, rfl, hy.1, hy.2, by rw [hv, Nb.vt_succ]; rfl, Nb.pw_succ m⟩
theorem twv_told {es : List Int} {N : Nat} (ho : Nb.Ok es) (hN : es.length = N) (h : 1 ≤ N) : Fits N (twv es) ∧ TStr N (twv es) (strOfNums es.reverse) ∧ (twv es < 0 ↔ 128 ≤ Nt.lb es (N - 1)) := by
  obtain ⟨r, b, r0, r1, hb, b0, b1, hv, hp⟩ := nb_top ho hN h
  have hx : twv es = if 128 ≤ b then Nb.val es - Nb.pw N else Nb.val es := by unfold twv; rw [hN, ← hb]
  have ht := p2_top h
  have hpp := Nb.pw_pos (N - 1)
  rw [← hb]
  by_cases c : 128 ≤ b
  · rw [if_pos c] at hx
    have h1 : 128 * Nb.pw (N - 1) ≤ b * Nb.pw (N - 1) := Int.mul_le_mul_of_nonneg_right c (by omega)
    have h2 : b * Nb.pw (N - 1) ≤ 255 * Nb.pw (N - 1) := Int.mul_le_mul_of_nonneg_right (by omega) (by omega)
    refine ⟨⟨by omega, by omega⟩, ⟨es, ho, hN, rfl, ?_⟩, ⟨fun _ => c, fun _ => by omega⟩⟩
    rw [if_pos (by omega)]; omega
  · rw [if_neg c] at hx
    have h1 : b * Nb.pw (N - 1) ≤ 127 * Nb.pw (N - 1) := Int.mul_le_mul_of_nonneg_right (by omega) (by omega)
    have h2 : 0 ≤ b * Nb.pw (N - 1) := Int.mul_nonneg b0 (by omega)
    refine ⟨⟨by omega, by omega⟩, ⟨es, ho, hN, rfl, ?_⟩, ⟨fun _ => by omega, fun h' => absurd h' c⟩⟩
    rw [if_neg (by omega)]; omega
theorem twv_of {N : Nat} {x : Int} {s : ByteArray} (h : 1 ≤ N) (hf : Fits N x) (ht : TStr N x s) : ∃ es, Nb.Ok es ∧ s = strOfNums es.reverse ∧ es.length = N ∧ twv es = x := by
  obtain ⟨es, ho, hN, hs, hv'⟩ := ht
  refine ⟨es, ho, hs, hN, ?_⟩
  obtain ⟨r, b, r0, r1, hb, b0, b1, hv, hp⟩ := nb_top ho hN h
  have htp := p2_top h
  have hpp := Nb.pw_pos (N - 1)
  obtain ⟨f1, f2⟩ := hf
  unfold twv
  rw [hN, ← hb]
  by_cases c : 128 ≤ b
  · rw [if_pos c]
    have h1 : 128 * Nb.pw (N - 1) ≤ b * Nb.pw (N - 1) := Int.mul_le_mul_of_nonneg_right c (by omega)
    by_cases hx : x < 0
    · rw [if_pos hx] at hv'; omega
    · rw [if_neg hx] at hv'; omega
  · rw [if_neg c]
    have h1 : b * Nb.pw (N - 1) ≤ 127 * Nb.pw (N - 1) := Int.mul_le_mul_of_nonneg_right (by omega) (by omega)
    by_cases hx : x < 0
    · rw [if_pos hx] at hv'; omega
    · rw [if_neg hx] at hv'; omega
theorem fits_more {N : Nat} {x : Int} (h : Fits N x) : Fits (N + 1) x := by
  obtain ⟨h1, h2⟩ := h
  have := p2_mono (m := 8 * N - 1) (n := 8 * (N + 1) - 1) (by omega)
  exact ⟨by omega, by omega⟩
theorem nb_val_snoc {es : List Int} (b : Int) : Nb.val (es ++ [b]) = Nb.val es + b * Nb.pw es.length := by
  show Nb.vt _ _ = _
  rw [show (es ++ [b]).length = es.length + 1 by simp, Nb.vt_succ]
  have h1 : Nt.lb (es ++ [b]) es.length = b := by simp [Nt.lb]
  have h2 : Nb.vt (es ++ [b]) es.length = Nb.vt es es.length := Nb.vt_congr (fun i hi => by simp [Nt.lb, List.getElem?_append_left hi])
  rw [h1, h2]; rfl
theorem nb_ok_snoc {es : List Int} {b : Int} (h : Nb.Ok es) (hb : 0 ≤ b ∧ b < 256) : Nb.Ok (es ++ [b]) := by
  intro i
  by_cases hi : i < es.length
  · rw [show Nt.lb (es ++ [b]) i = Nt.lb es i by simp [Nt.lb, List.getElem?_append_left hi]]; exact h i
  · by_cases e : i = es.length
    · rw [e, show Nt.lb (es ++ [b]) es.length = b by simp [Nt.lb]]; exact hb
    · rw [Nt.lb_out (by simp; omega)]; omega
/-- a byte more ahead: the sign -/
theorem tstr_more {N : Nat} {x : Int} {s : ByteArray} (ht : TStr N x s) : TStr (N + 1) x ((if x < 0 then ⟨#[255]⟩ else ⟨#[0]⟩) ++ s) := by
  obtain ⟨es, ho, hN, hs, hv⟩ := ht
  have hp := Nb.pw_succ N
  by_cases hx : x < 0
  · rw [if_pos hx] at hv ⊢
    refine ⟨es ++ [255], nb_ok_snoc ho (by omega), by simp [hN], ?_, ?_⟩
    · rw [hs]; apply Go.WideShapes.bytes_inj; simp [strOfNums]
    · rw [nb_val_snoc, if_pos hx, hv, hN]; omega
  · rw [if_neg hx] at hv ⊢
    refine ⟨es ++ [0], nb_ok_snoc ho (by omega), by simp [hN], ?_, ?_⟩
    · rw [hs]; apply Go.WideShapes.bytes_inj; simp [strOfNums]
    · rw [nb_val_snoc, if_neg hx, hv]; omega
theorem nb_val_cons' (b : Int) : ∀ es : List Int, Nb.val (b :: es) = b + 256 * Nb.val es := by
  intro es
  have h : ∀ n, Nb.vt (b :: es) (n + 1) = b + 256 * Nb.vt es n := by
    intro n
    induction n with
    | zero => simp [Nb.vt, Nb.pw, Nt.lb]
    | succ n ih =>
      rw [Nb.vt_succ, ih, Nb.vt_succ, Nb.pw_succ, show Nt.lb (b :: es) (n + 1) = Nt.lb es n by simp [Nt.lb]]
      grind
  show Nb.vt _ _ = _
  rw [show (b :: es).length = es.length + 1 by simp, h]; rfl
/-- a byte more behind -/
theorem twv_cons {es : List Int} {b : Int} (h : 1 ≤ es.length) : twv (b :: es) = twv es * 256 + b := by
  have e1 : Nt.lb (b :: es) ((b :: es).length - 1) = Nt.lb es (es.length - 1) := by
    obtain ⟨m, hm⟩ : ∃ m, es.length = m + 1 := ⟨es.length - 1, by omega⟩
    simp [Nt.lb, hm]
  unfold twv
  rw [e1, nb_val_cons', show (b :: es).length = es.length + 1 by simp, Nb.pw_succ]
  split <;> omega
theorem nb_ok_cons' {x : Int} {xs : List Int} (hx : 0 ≤ x ∧ x < 256) (h : Nb.Ok xs) : Nb.Ok (x :: xs) := by
  intro i
  cases i with
  | zero => simpa [Nt.lb] using hx
  | succ i => simpa [Nt.lb] using h i
theorem str_cons {es : List Int} {b : Int} : strOfNums (b :: es).reverse = strOfNums es.reverse ++ strOfNums [b] := by
  apply Go.WideShapes.bytes_inj
  simp [strOfNums]
/-- every text is bytes -/
theorem str_nums (s : ByteArray) : ∃ es, Nb.Ok es ∧ es.length = s.size ∧ s = strOfNums es.reverse := by
  refine ⟨(s.data.toList.map fun b => ((b.toNat : Nat) : Int)).reverse, ?_, by rw [List.length_reverse, List.length_map, Array.length_toList]; rfl, ?_⟩
  · refine nb_ok_rev (fun i => ?_)
    by_cases hi : i < (s.data.toList.map fun b => ((b.toNat : Nat) : Int)).length
    · have h : Nt.lb (s.data.toList.map fun b => ((b.toNat : Nat) : Int)) i = (s.data.toList.map fun b => ((b.toNat : Nat) : Int))[i] := by
        simp only [Nt.lb, List.getD_eq_getElem?_getD, List.getElem?_eq_getElem hi, Option.getD_some]
      rw [h, List.getElem_map]
      have := (s.data.toList[i]'(by simpa using hi)).toNat_lt
      omega
    · rw [Nt.lb_out (by omega)]; omega
  · apply Go.WideShapes.bytes_inj
    rw [List.reverse_reverse, strOfNums_data, List.map_map]
    refine (List.map_id _).symm.trans (List.map_congr_left (fun b _ => ?_))
    show b = UInt8.ofNat (((b.toNat : Nat) : Int).toNat)
    rw [Int.toNat_natCast, UInt8.ofNat_toNat]
theorem wnum_neg {B : Nat} {w : World} {ng : Bool} {m : Value} {n : Int} {k : Nat} (h : WNum B w (.agg #[.bool ng, m]) n k) : ng = decide (n < 0) := by
  obtain ⟨g, m', a, e, h1, h2, h3⟩ := h
  simp at e
  obtain ⟨rfl, rfl⟩ := e
  have h0 := h1.arg.nonneg
  cases ng with
  | true => have := h3 rfl; symm; apply decide_eq_true; rw [h2]; simp [wn]; omega
  | false => symm; apply decide_eq_false; rw [h2]; simp [wn]; omega
end Go.Proofs.YtejenbkhhcjeaaaGreatDoor

namespace Go.Proofs.YtejenbkhhcjeaaaGreatDoor
open Go.RowKit

set_option maxRecDepth 20000 in
set_option maxHeartbeats 2000000 in
theorem show_d3 {w : World} {v : Value} {k : Nat} (h : WArg w v (-3) k) (hk : k ≤ 1099511627776) :
    Calls Tryz.prog 45 #[v] w fun e w' => e = .returned (.string ⟨#[45, 51]⟩) ∧ Below w.heap.size w w' := by
  obtain ⟨neg, m, a, rfl, ha, hn⟩ := h
  have A1 := ha
  have N1 := ha.nonneg
  obtain ⟨zs, ⟨ao, cap, rfl, -⟩, -⟩ := ha
  have hna : neg = true ∧ a = 3 := by unfold wn at hn; cases neg <;> simp at hn <;> constructor <;> first | rfl | omega
  obtain ⟨rfl, rfl⟩ := hna
  have K1 : Below w.heap.size w (w.alloc (.cells #[.bool true, .slice ao zs.length cap] 25)) := bel_alloc _ _
  have C1 := cell2_new w (.bool true) (.slice ao zs.length cap) 25
  have HC := hide C1
  have HN := hide hn
  clear C1 hn
  replace A1 := A1.below K1
  have hsg : sgn (-3) 0 = -1 := by decide
  have hap : (⟨#[45]⟩ : ByteArray) ++ ⟨#[51]⟩ = ⟨#[45, 51]⟩ := rfl
  go_enter Tryz.func45, Tryz.ntmps45
  go_wp2_with fail
  with_reducible refine (sign_any A1 HN.out hk).mono ?_
  rintro e w2 ⟨rfl, hb2⟩
  have p1 := (HC.out.below hb2).c1
  go_wp2_with fail
  with_reducible refine (digits_d3 (A1.below hb2) hk).mono ?_
  rintro e w3 ⟨rfl, hb3⟩
  go_wp2
  go_ret
  exact ⟨rfl, K1.trans ((below_trans hb2 hb3).mono K1.size)⟩

set_option maxRecDepth 20000 in
set_option maxHeartbeats 2000000 in
theorem show_d1 {w : World} {v : Value} {k : Nat} (h : WArg w v (-1) k) (hk : k ≤ 1099511627776) :
    Calls Tryz.prog 45 #[v] w fun e w' => e = .returned (.string ⟨#[45, 49]⟩) ∧ Below w.heap.size w w' := by
  obtain ⟨neg, m, a, rfl, ha, hn⟩ := h
  have A1 := ha
  have N1 := ha.nonneg
  obtain ⟨zs, ⟨ao, cap, rfl, -⟩, -⟩ := ha
  have hna : neg = true ∧ a = 1 := by unfold wn at hn; cases neg <;> simp at hn <;> constructor <;> first | rfl | omega
  obtain ⟨rfl, rfl⟩ := hna
  have K1 : Below w.heap.size w (w.alloc (.cells #[.bool true, .slice ao zs.length cap] 25)) := bel_alloc _ _
  have C1 := cell2_new w (.bool true) (.slice ao zs.length cap) 25
  have HC := hide C1
  have HN := hide hn
  clear C1 hn
  replace A1 := A1.below K1
  have hsg : sgn (-1) 0 = -1 := by decide
  have hap : (⟨#[45]⟩ : ByteArray) ++ ⟨#[49]⟩ = ⟨#[45, 49]⟩ := rfl
  go_enter Tryz.func45, Tryz.ntmps45
  go_wp2_with fail
  with_reducible refine (sign_any A1 HN.out hk).mono ?_
  rintro e w2 ⟨rfl, hb2⟩
  have p1 := (HC.out.below hb2).c1
  go_wp2_with fail
  with_reducible refine (digits_d1 (A1.below hb2) hk).mono ?_
  rintro e w3 ⟨rfl, hb3⟩
  go_wp2
  go_ret
  exact ⟨rfl, K1.trans ((below_trans hb2 hb3).mono K1.size)⟩

set_option maxRecDepth 20000 in
set_option maxHeartbeats 2000000 in
theorem cutPrefix_5 {w : World} :
    Calls Tryz.prog 116 #[.string ⟨#[45, 53]⟩, .string ⟨#[45]⟩] w fun e w' => e = .returned (.tuple #[.string ⟨#[53]⟩, .bool true]) ∧ w' = w := by
  have x1 : ({ data := #[45, 53] } : ByteArray).extract 0 1 = { data := #[45] } := rfl
  have x2 : ({ data := #[45, 53] } : ByteArray).extract 1 2 = { data := #[53] } := rfl
  have x3 : (({ data := #[45] } : ByteArray) == { data := #[45] }) = true := by decide
  go_enter Tryz.func116, Tryz.ntmps116
  go_wp2
  go_ret2
  exact ⟨rfl, rfl⟩

set_option maxRecDepth 20000 in
set_option maxHeartbeats 4000000 in
theorem wread_5 {w : World} :
    Calls Tryz.prog 44 #[.string ⟨#[45, 53]⟩] w fun e w' => ∃ v, e = .returned (.tuple #[v, .bool true]) ∧ WNum w.heap.size w' v (-5) 2 ∧ Below w.heap.size w w' := by
  have K1 := bel_alloc w (.cells #[.bool false, .slice none 0 0] 25)
  have D1 := cell2_new w (.bool false) (.slice none 0 0) 25
  have HD := hide D1
  clear D1
  have lt1 := HD.out.lt
  go_enter Tryz.func44, Tryz.ntmps44
  go_wp2_with fail
  with_reducible refine cutPrefix_5.mono ?_
  rintro e w2 ⟨rfl, rfl⟩
  go_wp2_with fail
  with_reducible refine read_5.mono ?_
  rintro e w2 ⟨vn, rfl, hN, hb2⟩
  have hN' := hN
  obtain ⟨zs, ⟨ao, rfl, _, _⟩, hc, hv, _⟩ := hN
  have hz : ¬ (zs.length : Int) = 0 := by
    intro e
    have : zs = [] := List.eq_nil_of_length_eq_zero (by omega)
    rw [this] at hv
    exact absurd hv (by decide)
  have hz2 : ((zs.length : Int) == 0) = false := by simpa using hz
  clear hz hc hv
  go_wp2_with fail
  with_reducible refine (number_any hN' (by omega)).mono ?_
  rintro e w3 ⟨vr, rfl, hR, hb3⟩
  rw [if_pos rfl] at hR
  have K := below_trans hb2 hb3
  clear hb2 hb3 hN'
  obtain ⟨ng, ro, rl, rfl⟩ := hR.told
  have d0 := (HD.out.below K).c0
  have d1 := (HD.out.below K).c1
  have g0 := (HD.out.below K).f0
  have g1 := (HD.out.below K).f1
  go_wp2
  have PD := (HD.out.below K).put (.bool ng) (.slice ro rl rl)
  have KB := below_put2 (b := w.heap.size) (K1.trans (K.mono (by have := K1.size; omega))) (by omega) (.bool ng) (.slice ro rl rl)
  have WN := ((hR.put lt1 0 (.bool ng)).put lt1 1 (.slice ro rl rl)).low (B' := w.heap.size) (by omega)
  clear d0 d1 g0 g1 hR K K1 HD
  generalize (w3.setCell ⟨w.heap.size, 0, none⟩ (.bool ng)).setCell ⟨w.heap.size, 1, none⟩ (.slice ro rl rl) = w9 at *
  (try simp only [Exit.inBlock, Exit.then])
  exact bodyPost_ret (v := .tuple #[.agg #[.bool ng, .slice ro rl rl], .bool true]) (by simp [results, Tryz.results44, go_sem, PD.c0, PD.c1]) rfl ⟨_, rfl, WN, KB⟩

end Go.Proofs.YtejenbkhhcjeaaaGreatDoor

namespace Go.Proofs.YtejenbkhhcjeaaaGreatDoor
open Go.RowKit

theorem tstr_c {s : ByteArray} (h : TStr 2 (-1) s) : s = ⟨#[255, 255]⟩ :=
  tstr_one h ⟨[255, 255], by intro i; match i with | 0 => decide | 1 => decide | i + 2 => rw [Nt.lb_out (by simp)]; decide, rfl, rfl, by decide⟩
theorem fits_c : Fits 2 (-1) := by unfold Fits; decide

theorem wnum_five {B : Nat} {w : World} {ng : Bool} {ro : Option Addr} {rl k : Nat} (h : WNum B w (.agg #[.bool ng, .slice ro rl rl]) (-5) k) : ng = true ∧ rl = 1 := by
  obtain ⟨neg, m, a, e, hN, hn, _⟩ := h
  have hna : neg = true ∧ a = 5 := by
    have := hN.arg.nonneg
    unfold wn at hn; cases neg <;> simp at hn <;> constructor <;> first | rfl | omega
  obtain ⟨rfl, rfl⟩ := hna
  simp at e
  obtain ⟨rfl, rfl⟩ := e
  obtain ⟨ao, h1, _⟩ := hN.made (ys := [5]) (canon_one (by omega)) (val_one 5)
  simp at h1
  exact ⟨rfl, h1.2⟩

set_option maxRecDepth 20000 in
set_option maxHeartbeats 8000000 in
theorem wlives_any {w : World} :
    Calls Tryz.prog 13 #[] w fun e w' => e = .returned (.bool true) ∧ Below w.heap.size w w' := by
  go_enter Tryz.func13, Tryz.ntmps13
  go_wp2_with fail
  with_reducible refine (wfrom_any (n := -7) (by omega) (by omega)).mono ?_
  rintro e w1 ⟨va, rfl, ha, hb1⟩
  go_wp2_with fail
  with_reducible refine (wfrom_any (n := 2) (by omega) (by omega)).mono ?_
  rintro e w2 ⟨vb, rfl, hb, hb2⟩
  go_wp2_with fail
  with_reducible refine (wquo_any (ha.arg.below hb2) (by omega) hb.arg (by omega) (by omega)).mono ?_
  rintro e w3 ⟨vq, vr, rfl, hq, hr, hb3⟩
  have KB := below_trans (below_trans hb1 hb2) hb3
  have e1 : Int.tdiv (-7) 2 = -3 := by decide
  have e2 : Int.tmod (-7) 2 = -1 := by decide
  rw [e1] at hq
  rw [e2] at hr
  clear hb1 hb2 hb3 ha hb e1 e2
  obtain ⟨ng1, ro1, rl1, rfl⟩ := hq.told
  obtain ⟨ng2, ro2, rl2, rfl⟩ := hr.told
  go_wp2_with fail
  have z3 : (w3.alloc (.cells #[.bool ng1, .slice ro1 rl1 rl1] 25)).heap.size = w3.heap.size + 1 := by simp
  have C1 := (cell2_new w3 (.bool ng1) (.slice ro1 rl1 rl1) 25).alloc (.cells #[.bool ng2, .slice ro2 rl2 rl2] 25)
  have C2 := cell2_new (w3.alloc (.cells #[.bool ng1, .slice ro1 rl1 rl1] 25)) (.bool ng2) (.slice ro2 rl2 rl2) 25
  rw [z3] at C2
  have K4 := below_trans (bel_alloc w3 (.cells #[.bool ng1, .slice ro1 rl1 rl1] 25)) (bel_alloc _ (.cells #[.bool ng2, .slice ro2 rl2 rl2] 25))
  clear z3
  replace KB := below_trans KB K4
  replace hq := hq.below K4
  replace hr := hr.below K4
  clear K4
  have z4 : w3.heap.size + 1 < ((w3.alloc (.cells #[.bool ng1, .slice ro1 rl1 rl1] 25)).alloc (.cells #[.bool ng2, .slice ro2 rl2 rl2] 25)).heap.size := by simp
  obtain ⟨b1, hb1⟩ : ∃ b1, b1 = w3.heap.size := ⟨_, rfl⟩
  rw [← hb1] at C1 C2 z4 ⊢
  clear hb1
  generalize (w3.alloc (.cells #[.bool ng1, .slice ro1 rl1 rl1] 25)).alloc (.cells #[.bool ng2, .slice ro2 rl2 rl2] 25) = w4 at *
  with_reducible refine (wfrom_any (n := -1) (by omega) (by omega)).mono ?_
  rintro e w5 ⟨vc, rfl, hc, hb5⟩
  go_wp2_with fail
  have c6 := twos_any (N := 2) hc.arg (by omega) (by omega) (by omega)
  rw [show ((2 : Nat) : Int) = 2 from rfl] at c6
  with_reducible refine c6.mono ?_
  clear c6
  rintro e w6 ⟨⟨s, b, rfl, hsb⟩, hb6⟩
  obtain ⟨rfl, -, hts⟩ : b = true ∧ Fits 2 (-1) ∧ TStr 2 (-1) s := by
    rcases hsb with h | ⟨_, h, _⟩
    · exact h
    · exact absurd fits_c h
  obtain rfl := tstr_c hts
  go_wp2_with fail
  with_reducible refine wread_5.mono ?_
  rintro e w7 ⟨vx, rfl, hx, hb7⟩
  have K7 := below_trans (below_trans hb5 hb6) hb7
  replace KB := below_trans KB K7
  replace hq := hq.below K7
  replace hr := hr.below K7
  replace C1 := C1.below K7
  replace C2 := C2.below K7
  clear K7 hb5 hb6 hb7 hc hts hsb z4
  obtain ⟨ng3, ro3, rl3, rfl⟩ := hx.told
  have hng := wnum_five hx
  obtain ⟨rfl, rfl⟩ := hng
  go_upto_region 4 with fail
  have C3 := cell2_new w7 (.bool true) (.slice ro3 1 1) 25
  have K8 := bel_alloc w7 (.cells #[.bool true, .slice ro3 1 1] 25)
  replace KB := below_trans KB K8
  replace hq := hq.below K8
  replace hr := hr.below K8
  replace hx := hx.below K8
  replace C1 := C1.below K8
  replace C2 := C2.below K8
  clear K8
  obtain ⟨b3, hb3⟩ : ∃ b3, b3 = w7.heap.size := ⟨_, rfl⟩
  rw [← hb3] at C3 ⊢
  clear hb3
  generalize w7.alloc (.cells #[.bool true, .slice ro3 1 1] 25) = w8 at *
  have HC1 := hide C1
  have HC2 := hide C2
  have HC3 := hide C3
  have p1 := C1.c0
  have q1 := C1.c1
  have p2 := C2.c0
  have q2 := C2.c1
  have p3 := C3.c0
  have q3 := C3.c1
  clear C1 C2 C3
  have K : Below w8.heap.size w8 w8.drew := (Below.refl _ _).drew
  have s5 : sgn (-5) (-5) = 0 := by decide
  have t1 : (({ data := #[45, 51] } : ByteArray) == { data := #[45, 51] }) = true := by decide
  have t2 : (({ data := #[45, 49] } : ByteArray) == { data := #[45, 49] }) = true := by decide
  have t3 : (({ data := #[255, 255] } : ByteArray) == { data := #[255, 255] }) = true := by decide
  go_region_held3 (fun w' => w'.cell? ⟨b1, 0, none⟩ = some (.bool ng1) ∧ w'.cell? ⟨b1, 1, none⟩ = some (.slice ro1 rl1 rl1) ∧ w'.cell? ⟨b1 + 1, 0, none⟩ = some (.bool ng2) ∧ w'.cell? ⟨b1 + 1, 1, none⟩ = some (.slice ro2 rl2 rl2) ∧ w'.cell? ⟨b3, 0, none⟩ = some (.bool true) ∧ w'.cell? ⟨b3, 1, none⟩ = some (.slice ro3 1 1))
    (first
      | with_reducible exact ⟨(HC1.out.below K).c0, (HC1.out.below K).c1, (HC2.out.below K).c0, (HC2.out.below K).c1, (HC3.out.below K).c0, (HC3.out.below K).c1⟩
      | go_keep)
    (first
      | (go_at_call 45; first | (with_reducible refine (show_d3 (hq.arg.below K) (by omega)).mono ?_; rintro e w9 ⟨rfl, hb⟩; replace K := below_trans K hb; clear hb) | (with_reducible refine (show_d1 (hr.arg.below K) (by omega)).mono ?_; rintro e w9 ⟨rfl, hb⟩; replace K := below_trans K hb; clear hb))
      | (go_at_call 43; with_reducible refine (wfrom_any (n := -5) (by omega) (by omega)).mono ?_; rintro e w9 ⟨v5, rfl, h5, hb⟩; replace K := below_trans K hb; clear hb)
      | (go_at_call 46; with_reducible refine (wcmp_any (hx.arg.below K) h5.arg (by omega) (by omega)).mono ?_; rintro e w9 ⟨rfl, hb⟩; replace K := below_trans K hb; clear hb))
  all_goals go_wp2
  all_goals go_ret
  all_goals exact ⟨rfl, below_trans KB K⟩

end Go.Proofs.YtejenbkhhcjeaaaGreatDoor
