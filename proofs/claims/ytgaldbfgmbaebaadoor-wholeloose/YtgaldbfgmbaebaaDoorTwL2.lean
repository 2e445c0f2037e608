/- Twos, DigD, WKit, WLives -/
import Derived.Test.YtgaldbfgmbaebaaDoorQBytes
import Derived.Handy
import Derived.Test.YtgaldbfgmbaebaaDoorWholeC
import Derived.Lib.BufferWrite
import Derived.Laws.CopyOwn
import Derived.Test.YtgaldbfgmbaebaaDoorDigC
import Derived.Test.YtgaldbfgmbaebaaDoorAdd
import Derived.Test.YtgaldbfgmbaebaaDoorLives
import Derived.Test.YtgaldbfgmbaebaaDoorSame
import Derived.Test.YtgaldbfgmbaebaaDoorBeyond
import Derived.Test.YtgaldbfgmbaebaaDoorWholeQ
namespace Go.Proofs.YtgaldbfgmbaebaaDoor
open Go.RowKit

theorem xor_ones8 (n : Nat) (h : n < 256) : 255 ^^^ n = 255 - n := by
  have e : (BitVec.allOnes 8 ^^^ BitVec.ofNat 8 n).toNat = (~~~ BitVec.ofNat 8 n).toNat := by rw [BitVec.allOnes_xor]
  rw [BitVec.toNat_xor, BitVec.toNat_not, BitVec.toNat_allOnes, BitVec.toNat_ofNat, Nat.mod_eq_of_lt (by omega)] at e
  simpa using e
theorem flip8 {x : Int} (h0 : 0 ≤ x) (h1 : x < 256) : bits BinOp.xor IntKind.u8 (if IntKind.u8.signed = true then -1 else IntKind.u8.max) x = 255 - x := by
  obtain ⟨n, rfl⟩ := Int.eq_ofNat_of_zero_le h0
  have hn : n < 256 := by omega
  rw [show (if IntKind.u8.signed = true then (-1 : Int) else IntKind.u8.max) = ((255 : Nat) : Int) from rfl, u8_xor_nat 255 n (by omega) (by omega), xor_ones8 n hn]
  omega

def flip (zs : List Int) : List Int := zs.map fun z => 255 - z
theorem flip_length (zs : List Int) : (flip zs).length = zs.length := by simp [flip]
theorem flip_set {zs cur : List Int} {k : Nat} (hl : cur.length = zs.length) (hk : k < zs.length) (h1 : cur.take k = (flip zs).take k) (h2 : ∀ i, k ≤ i → Nt.lb cur i = Nt.lb zs i) {y : Int} (hy : y = 255 - Nt.lb zs k) : (cur.set k y).take (k + 1) = (flip zs).take (k + 1) ∧ ∀ i, k + 1 ≤ i → Nt.lb (cur.set k y) i = Nt.lb zs i := by
  subst hy
  refine ⟨?_, fun i hi => ?_⟩
  · rw [List.take_succ_eq_append_getElem (by rw [List.length_set]; omega), List.take_succ_eq_append_getElem (by rw [flip_length]; exact hk), List.take_set_of_le (Nat.le_refl _), h1]
    simp [flip, Nt.lb, hk]
  · rw [← h2 i (by omega)]
    simp only [Nt.lb, List.getD_eq_getElem?_getD]
    rw [List.getElem?_set_ne (by omega)]

set_option maxHeartbeats 2000000 in
theorem turnOver_any {w : World} {g N : Nat} {zs : List Int} (hr : Row .u8 5 w g zs) (hl : zs.length = N) (ho : Nb.Ok zs) (hN : N ≤ 1099511627776) :
    Calls Tryd.prog 72 #[.slice (some ⟨g, 0, none⟩) N N] w fun e w' => e = .returned (.tuple #[]) ∧ Row .u8 5 w' g (flip zs) ∧ Below g w w' := by
  have HL := hide hl
  clear hl
  go_enter Tryd.func72, Tryd.ntmps72
  go_wp2
  go_loopw [5] (fun i wr => ∃ (k : Nat) (cur : List Int), k ≤ N ∧ i = .int .i64 k ∧ cur.length = zs.length ∧ cur.take k = (flip zs).take k ∧ (∀ i, k ≤ i → Nt.lb cur i = Nt.lb zs i) ∧ Row .u8 5 wr g cur ∧ Below g w wr) (fun i _ => N - (intOf i).toNat)
  case atStart => exact ⟨0, zs, by omega, rfl, rfl, by simp, fun _ _ => rfl, hr, Below.refl _ _⟩
  case round =>
    obtain ⟨k, cur, hk, rfl, hcl, hct, hcr, hrow, hbr⟩ := hrel
    have hkk := hcr k (Nat.le_refl _)
    have HA := hide (And.intro hcl (And.intro hct hcr))
    clear hcl hct hcr hr
    by_cases hkN : k < N
    · have g1 := hrow.cell (i := k) (by have := HA.out.1; have := HL.out; omega)
      have hfz := hrow.frozen k
      have bk := ho k
      rw [hkk] at g1
      clear hkk
      have b0 : 0 ≤ Nt.lb zs k := bk.1
      have b1 : Nt.lb zs k < 256 := bk.2
      have hfl := hide (flip8 b0 b1)
      go_wp2
      rw [hfl.out]
      go_roundw
      case rel => 
        have hstep := flip_set HA.out.1 (by have := HL.out; omega) HA.out.2.1 HA.out.2.2 (y := 255 - Nt.lb zs k) rfl
        exact ⟨k + 1, cur.set k (255 - Nt.lb zs k), by omega, by go_num, by rw [List.length_set, HA.out.1], hstep.1, hstep.2, hrow.set _ _, hbr.setCell (p := ⟨g, k, none⟩) (Nat.le_refl _) _⟩
      case measure => simp [intOf]; omega
    · go_wp2
      go_returns
      refine ⟨rfl, ?_, hbr⟩
      have h1 := HA.out.1
      have h2 := HA.out.2.1
      have h3 := HL.out
      have : cur = flip zs := by
        rw [List.take_of_length_le (by omega), List.take_of_length_le (by rw [flip_length]; omega)] at h2
        exact h2
      rw [← this]
      exact hrow

/-- x as so many bytes of two's complement, the highest first -/
def TStr (N : Nat) (x : Int) (s : ByteArray) : Prop := ∃ ds, Nb.Ok ds ∧ ds.length = N ∧ s = strOfNums ds.reverse ∧ Nb.val ds = (if x < 0 then x + Nb.pw N else x)
/-- it has room -/
def Fits (N : Nat) (x : Int) : Prop := -p2 (8 * N - 1) ≤ x ∧ x < p2 (8 * N - 1)

theorem tstr_one {N : Nat} {x : Int} {s t : ByteArray} (hs : TStr N x s) (ht : TStr N x t) : s = t := by
  obtain ⟨d, h1, h2, h3, h4⟩ := hs
  obtain ⟨e, k1, k2, k3, k4⟩ := ht
  have hv : Nb.vt d N = Nb.vt e N := by
    have a1 : Nb.vt d N = Nb.val d := by rw [← h2]; rfl
    have a2 : Nb.vt e N = Nb.val e := by rw [← k2]; rfl
    rw [a1, a2, h4, k4]
  have : d = e := Nt.ext_lb (h2.trans k2.symm) (fun j hj => Nb.vt_inj h1 k1 hv j (by omega))
  rw [h3, k3, this]

theorem nb_ok_rev {xs : List Int} (h : Nb.Ok xs) : Nb.Ok xs.reverse := by
  intro i
  by_cases hi : i < xs.length
  · rw [lb_reverse hi]; exact h _
  · rw [Nt.lb_out (by rw [List.length_reverse]; omega)]; omega
theorem flip_reverse (l : List Int) : flip l.reverse = (flip l).reverse := by simp [flip]
theorem lb_flip {l : List Int} {i : Nat} (h : i < l.length) : Nt.lb (flip l) i = 255 - Nt.lb l i := by simp [flip, Nt.lb, h]
theorem flip_ok {l : List Int} (h : Nb.Ok l) : Nb.Ok (flip l) := by
  intro i
  by_cases hi : i < l.length
  · have h1 := h i
    have : Nt.lb (flip l) i = 255 - Nt.lb l i := lb_flip hi
    omega
  · rw [Nt.lb_out (by rw [flip_length]; omega)]; omega
theorem flip_vt {l : List Int} : ∀ n, n ≤ l.length → Nb.vt (flip l) n = Nb.pw n - 1 - Nb.vt l n
  | 0, _ => by simp [Nb.vt, Nb.pw]
  | n + 1, h => by
    rw [Nb.vt_succ, Nb.vt_succ, flip_vt n (by omega), Nb.pw_succ, show Nt.lb (flip l) n = 255 - Nt.lb l n from lb_flip (by omega)]
    rw [Int.sub_mul]
    omega
theorem flip_val (l : List Int) : Nb.val (flip l) = Nb.pw l.length - 1 - Nb.val l := by
  have := flip_vt (l := l) l.length (Nat.le_refl _)
  have h2 : Nb.val (flip l) = Nb.vt (flip l) l.length := by rw [← flip_length l]; rfl
  rw [h2, this]; rfl

theorem lb_tail0 {l : List Int} {z i : Nat} : Nt.lb (l ++ List.replicate z 0) i = Nt.lb l i := by
  by_cases h : i < l.length
  · simp [Nt.lb, List.getElem?_append_left h]
  · by_cases h2 : i < l.length + z
    · have h3 : i - l.length < z := by omega
      simp [Nt.lb, List.getElem?_append_right (show l.length ≤ i by omega), List.getElem?_eq_none (show l.length ≤ i by omega), h3]
    · rw [Nt.lb_out (by rw [List.length_append, List.length_replicate]; omega), Nt.lb_out (by omega)]
theorem pad_ok {l : List Int} {z : Nat} (h : Nb.Ok l) : Nb.Ok (l ++ List.replicate z 0) := fun i => by rw [lb_tail0]; exact h i
theorem pad_val {l : List Int} {z : Nat} : Nb.val (l ++ List.replicate z 0) = Nb.val l := by
  have h1 : Nb.val (l ++ List.replicate z 0) = Nb.vt l (l.length + z) := by
    show Nb.vt _ _ = _
    rw [List.length_append, List.length_replicate]
    exact Nb.vt_congr (fun i _ => lb_tail0)
  rw [h1, Nb.vt_out (by omega)]

theorem canon_fits {ds : List Int} {N : Nat} (h : Nb.Canon ds) (hv : Nb.val ds < Nb.pw N) : ds.length ≤ N := by
  rcases Nat.lt_or_ge N ds.length with h1 | h1
  · have h2 := Nb.canon_low h (by intro e; subst e; simp at h1)
    have h3 := Nb.pw_mono (m := N) (n := ds.length - 1) (by omega)
    omega
  · exact h1

theorem isLen_fits {a : Int} {K m : Nat} (h : IsLen a K) : K ≤ m ↔ a < p2 m := by
  constructor
  · intro hk
    have h1 := p2_mono hk
    have h2 := h.1
    omega
  · intro ha
    rcases Nat.lt_or_ge m K with h1 | h1
    · have h2 := h.2 (by omega)
      have h3 := p2_mono (m := m) (n := K - 1) (by omega)
      omega
    · exact h1

theorem cells_of_nums {zs : List Int} (h : Nb.Ok zs) : Lib.byteCells (strOfNums zs).data.toList = zs.map (Value.int .u8) := by
  rw [strOfNums_data]
  simp only [Lib.byteCells, List.map_map]
  apply List.map_congr_left
  intro z hz
  obtain ⟨i, hi, rfl⟩ := List.getElem_of_mem hz
  have h1 := h i
  have h2 : Nt.lb zs i = zs[i] := by simp [Nt.lb, hi]
  rw [h2] at h1
  simp
  omega

theorem Tryd.sizeU8 : (Tryd.prog.info? 5).map (·.size) = some 1 := by kernel_rfl
/-- copy of a string into a row of bytes -/
theorem wpList_copy_str {P : Program} {w : World} {ops : Array Oper} {rest : List Oper} {o : Oper} {a : Act} {Q : Exit → Act → World → Prop} (hgd : o.guard = none) (d s : Operand) (dT sT : TypeId)
    (ho : o.op = .call { callee := .builtin .copy, args := #[d, s], argTypes := #[dT, sT] }) (elem : TypeId) (hu : P.underlying dT = some (.slice elem)) (hsz : (P.info? elem).map (·.size) = some 1)
    (dp : Option Addr) (dLen dCap : Nat) (zs : List Int) (hz : Nb.Ok zs) (hd : a.eval d = .slice dp dLen dCap) (hs : a.eval s = .string (strOfNums zs))
    (g off : Nat) (cur : List Int) (t : TypeId) (hg : Row .u8 t w g cur) (hpos : 0 < zs.length → dp = some ⟨g, off, none⟩) (hle : zs.length ≤ dLen) (hfit : off + zs.length ≤ cur.length)
    (h : ∀ w', Row .u8 t w' g (cur.take off ++ (zs ++ cur.drop (off + zs.length))) → Below g w w' → wpList P ops Q rest (a.put o.dst (goInt zs.length)) w') :
    wpList P ops Q (o :: rest) a w := by
  have hlen : (strOfNums zs).size = zs.length := by simp [strOfNums, ByteArray.size]
  refine wpList_plain hgd fun K hK => ?_
  by_cases h0 : zs.length = 0
  · obtain rfl : zs = [] := List.eq_nil_of_length_eq_zero h0
    have hrun := Lib.run_copy_empty_string (P := P) w dT sT o.type elem dp dLen dCap (strOfNums []) hu (by rw [hsz]; rfl) hlen
    unfold Oper.wp
    simp [execOp, ho, resolve, invoke, builtin, hd, hs, hrun, Result.andThen]
    refine hK _ _ (h w ?_ (Below.refl _ _))
    simpa using hg
  · obtain rfl := hpos (by omega)
    have hrun := Lib.run_copy_row_string (P := P) w dT sT o.type elem g off dLen dCap (strOfNums zs) _ t hu hsz hg (by omega) (by simpa [hlen] using hfit)
    rw [cells_of_nums hz, hlen] at hrun
    unfold Oper.wp
    simp [execOp, ho, resolve, invoke, builtin, hd, hs, hrun, Result.andThen]
    refine hK _ _ (h _ ?_ (below_setRow (Below.refl _ _) (Nat.le_refl _) _))
    have := setRow_heap w g _ ((cur.take off ++ (zs ++ cur.drop (off + zs.length))).map (Value.int .u8)).toArray t _ hg
    unfold Row
    simpa using this

set_option maxRecDepth 20000 in
set_option maxHeartbeats 4000000 in
theorem twos_any {w : World} {v : Value} {x : Int} {k N : Nat} (h : WArg w v x k) (hk : k ≤ 1099511627776) (h1 : 1 ≤ N) (h2 : N ≤ 1048576) :
    Calls Tryd.prog 34 #[v, .int .i64 N] w fun e w' => (∃ s b, e = .returned (.tuple #[.string s, .bool b]) ∧ ((b = true ∧ Fits N x ∧ TStr N x s) ∨ (b = false ∧ ¬ Fits N x ∧ s = ⟨#[]⟩))) ∧ Below w.heap.size w w' := by
  obtain ⟨neg, m, a, rfl, ha, hn⟩ := h
  have A1 := ha
  obtain ⟨zs, ⟨ao, cap, rfl, -⟩, -⟩ := ha
  have N1 := A1.nonneg
  have hs := sg_self hn N1
  have hsl := sg_lt hs
  have Hn := hide hn
  clear hn
  have K1 : Below w.heap.size w (w.alloc (.cells #[.bool neg, .slice ao zs.length cap] 38)) := bel_alloc _ _
  have C1 := cell2_new w (.bool neg) (.slice ao zs.length cap) 38
  replace A1 := A1.below K1
  have HC := hide C1
  have p0 := C1.c0
  have p1 := C1.c1
  clear C1
  go_enter Tryd.func34, Tryd.ntmps34
  go_upto_region 3 with fail
  generalize w.alloc (.cells #[.bool neg, .slice ao zs.length cap] 38) = w1 at *
  have K : Below w1.heap.size w1 w1.drew := (Below.refl _ _).drew
  go_region_held3 (fun w' => w'.cell? ⟨w.heap.size, 0, none⟩ = some (.bool neg) ∧ w'.cell? ⟨w.heap.size, 1, none⟩ = some (.slice ao zs.length cap))
    (first
      | with_reducible exact ⟨(HC.out.below K).c0, (HC.out.below K).c1⟩
      | go_keep)
    (first
      | (go_at_call 63; with_reducible refine (sign_any (A1.below K) Hn.out (by omega)).mono ?_; rintro e w2 ⟨rfl, hb⟩; replace K := below_trans K hb; clear hb))
  have KB := K1.trans (K.mono K1.size)
  replace A1 := A1.below K
  clear K K1 p0 p1 HC
  by_cases hneg : x < 0
  · rw [decide_eq_true hneg] at hsl
    go_wp2_with fail
    with_reducible refine (from_any 1 (by omega) (by omega)).mono ?_
    rintro e w3 ⟨v1, rfl, ho, hb3⟩
    go_wp2_with fail
    have ha1 : 1 ≤ a := by unfold Sg at hs; omega
    with_reducible refine (sub_yes (A1.below hb3) ho.arg (by omega) (by omega) ha1).mono ?_
    rintro e w4 ⟨vs, rfl, hS, hb4⟩
    replace KB := below_trans (below_trans KB hb3) hb4
    clear ho hb3 hb4 A1
    obtain ⟨ys, ⟨so, rfl, -⟩, -⟩ := id hS
    go_wp2_with fail
    with_reducible refine (len_any hS.arg (by omega)).mono ?_
    rintro e w5 ⟨K, rfl, hK, hK2, rfl⟩
    have hKf := isLen_fits (m := 8 * N - 1) hK
    clear hK hK2
    by_cases hfit : K ≤ 8 * N - 1
    · have hlt : a - 1 < p2 (8 * N - 1) := hKf.1 hfit
      have hF : Fits N x := by unfold Fits; unfold Sg at hs; omega
      have q1 : ¬ (8 : Int) * (N : Int) - 1 < (K : Int) := by omega
      clear hKf hfit
      have HF := hide (And.intro hF hlt)
      clear hF hlt
      go_wp2_with (at_make; refine wpList_make_row _ rfl _ _ 28 rfl 5 .u8 1 Tryd.underlying28 Tryd.infoU8 _ _ _ _ N N rfl rfl (by omega) (by omega) (Nat.le_refl _) (by omega) (by unfold maxLen; omega) ?_)
      intro w6 hrow hb6 hz6
      go_wp2_with fail
      with_reducible refine (qbytes_any (hS.arg.below hb6) (by omega)).mono ?_
      rintro e w7 ⟨sb, rfl, ⟨ds, hdc, hdv, hsb⟩, -, hb7⟩
      have hdl : ds.length ≤ N := canon_fits hdc (by have h1 := HF.out.2; have h2 := p2_mono (m := 8 * N - 1) (n := 8 * N) (by omega); rw [p2_8] at h2; omega)
      obtain ⟨rv, hrv⟩ : ∃ rv, rv = ds.reverse := ⟨_, rfl⟩
      rw [← hrv] at hsb
      subst hsb
      obtain ⟨cur, hcur⟩ : ∃ cur, cur = List.replicate N (0 : Int) := ⟨_, rfl⟩
      have hrow7 := hrow.keeps hb7
      rw [← hcur] at hrow7
      have hrl : rv.length = ds.length := by rw [hrv, List.length_reverse]
      have hcl : cur.length = N := by rw [hcur, List.length_replicate]
      have hsz : (((strOfNums rv).size : Nat) : Int) = (ds.length : Int) := by rw [← hrl]; simp [strOfNums, ByteArray.size]
      obtain ⟨off, hoff⟩ : ∃ off, off = N - ds.length := ⟨_, rfl⟩
      have q2 : (N : Int) - (ds.length : Int) = (off : Int) := by omega
      have q4 : (off : Int) ≤ (N : Int) := by omega
      have q5 : (ds.length : Int) ≤ 9223372036854775807 := by omega
      have KB7 := below_trans (below_trans KB hb6) hb7
      have lt7 : w.heap.size ≤ w5.heap.size := KB.size
      have hrok : Nb.Ok rv := by rw [hrv]; exact nb_ok_rev hdc.1
      have hfl : off + rv.length ≤ cur.length := by omega
      have hle : rv.length ≤ N - off := by omega
      have HD := hide (And.intro hdc (And.intro hdv (And.intro hoff (And.intro hrv (And.intro hcur hrl)))))
      have HX := hide (And.intro hrok (And.intro hfl (And.intro hrow7 hle)))
      clear hb6 hb7 KB hrow hdv hoff hdc hdl hrok hfl hrow7 hrv hcur hrl hcl hle
      by_cases hon : off = N
      · have hon' := hon.symm
        subst hon'
        have hrn : rv = [] := by have h1 := HX.out.2.2.2; exact List.eq_nil_of_length_eq_zero (by omega)
        have HRN := hide hrn
        clear hrn
        go_wp2_with (refine wpList_copy_str rfl (.tmp 43) (.tmp 44) 28 9 rfl 5 Tryd.underlying28 Tryd.sizeU8 _ _ _ rv HX.out.1 rfl rfl w5.heap.size N cur 5 HX.out.2.2.1 ?_ ?_ HX.out.2.1 ?_)
        · intro h0; have h1 := HRN.out; rw [h1] at h0; simp at h0
        · have h1 := HX.out.2.2.2
          omega
        intro w8 hr8 hb8
        have hT : cur.take N ++ (rv ++ cur.drop (N + rv.length)) = (ds ++ List.replicate N 0).reverse := by
          have h1 := HD.out.2.2.1
          have h2 := HD.out.2.2.2.2.2
          rw [HD.out.2.2.2.2.1, List.drop_eq_nil_of_le (by first | (simp; done) | (simp; omega)), HD.out.2.2.2.1, List.append_nil, List.reverse_append, List.reverse_replicate, List.take_replicate, Nat.min_eq_left (by omega)]
        rw [hT] at hr8
        have hln : (ds ++ List.replicate N 0).length = N := by have h1 := HD.out.2.2.1; have h2 := HX.out.2.2.2; have h3 := HD.out.2.2.2.2.2; rw [List.length_append, List.length_replicate]; omega
        have hok : Nb.Ok (ds ++ List.replicate N 0) := pad_ok HD.out.1.1
        have hvl : Nb.val (ds ++ List.replicate N 0) = a - 1 := by rw [pad_val]; exact HD.out.2.1
        have KB8 := KB7.trans (hb8.mono lt7)
        clear hb8 KB7 HX HD hT
        generalize ds ++ List.replicate N 0 = es at *
        go_wp2_with fail
        with_reducible refine (turnOver_any hr8 (by rw [List.length_reverse]; exact hln) (nb_ok_rev hok) (by omega)).mono ?_
        rintro e w9 ⟨rfl, hr9, hb9⟩
        rw [flip_reverse] at hr9
        have hcv := row_string (cap := N) hr9
        rw [List.length_reverse, flip_length, hln] at hcv
        have KB9 := KB8.trans (hb9.mono lt7)
        have hts : TStr N x (strOfNums (flip es).reverse) := ⟨flip es, flip_ok hok, by rw [flip_length]; exact hln, rfl, by
          rw [flip_val, hvl, hln, if_pos (by omega)]; unfold Sg at hs; omega⟩
        have HT := hide hts
        clear hts
        go_wp2
        go_ret2
        exact ⟨⟨_, _, rfl, Or.inl ⟨rfl, HF.out.1, HT.out⟩⟩, KB9⟩
      · have q6 : (off : Int) < (N : Int) := by omega
        clear hon
        go_wp2_with (refine wpList_copy_str rfl (.tmp 43) (.tmp 44) 28 9 rfl 5 Tryd.underlying28 Tryd.sizeU8 _ _ _ rv HX.out.1 rfl rfl w5.heap.size off cur 5 HX.out.2.2.1 ?_ ?_ HX.out.2.1 ?_)
        · exact HX.out.2.2.2
        intro w8 hr8 hb8
        have hT : cur.take off ++ (rv ++ cur.drop (off + rv.length)) = (ds ++ List.replicate off 0).reverse := by
          have h1 := HD.out.2.2.1
          have h2 := HD.out.2.2.2.2.2
          rw [HD.out.2.2.2.2.1, List.drop_eq_nil_of_le (by first | (simp; done) | (simp; omega)), HD.out.2.2.2.1, List.append_nil, List.reverse_append, List.reverse_replicate, List.take_replicate, Nat.min_eq_left (by omega)]
        rw [hT] at hr8
        have hln : (ds ++ List.replicate off 0).length = N := by have h1 := HD.out.2.2.1; have h2 := HX.out.2.2.2; have h3 := HD.out.2.2.2.2.2; rw [List.length_append, List.length_replicate]; omega
        have hok : Nb.Ok (ds ++ List.replicate off 0) := pad_ok HD.out.1.1
        have hvl : Nb.val (ds ++ List.replicate off 0) = a - 1 := by rw [pad_val]; exact HD.out.2.1
        have KB8 := KB7.trans (hb8.mono lt7)
        clear hb8 KB7 HX HD hT
        generalize ds ++ List.replicate off 0 = es at *
        go_wp2_with fail
        with_reducible refine (turnOver_any hr8 (by rw [List.length_reverse]; exact hln) (nb_ok_rev hok) (by omega)).mono ?_
        rintro e w9 ⟨rfl, hr9, hb9⟩
        rw [flip_reverse] at hr9
        have hcv := row_string (cap := N) hr9
        rw [List.length_reverse, flip_length, hln] at hcv
        have KB9 := KB8.trans (hb9.mono lt7)
        have hts : TStr N x (strOfNums (flip es).reverse) := ⟨flip es, flip_ok hok, by rw [flip_length]; exact hln, rfl, by
          rw [flip_val, hvl, hln, if_pos (by omega)]; unfold Sg at hs; omega⟩
        have HT := hide hts
        clear hts
        go_wp2
        go_ret2
        exact ⟨⟨_, _, rfl, Or.inl ⟨rfl, HF.out.1, HT.out⟩⟩, KB9⟩
    · have hge : ¬ a - 1 < p2 (8 * N - 1) := fun h => hfit (hKf.2 h)
      have hF : ¬ Fits N x := by unfold Fits; unfold Sg at hs; omega
      have q1 : (8 : Int) * (N : Int) - 1 < (K : Int) := by omega
      have HF := hide hF
      clear hKf hge hF
      go_wp2
      go_ret2
      exact ⟨⟨_, _, rfl, Or.inr ⟨rfl, HF.out, rfl⟩⟩, KB⟩
  · rw [decide_eq_false hneg] at hsl
    go_wp2_with fail
    with_reducible refine (len_any A1.arg (by omega)).mono ?_
    rintro e w5 ⟨K, rfl, hK, hK2, rfl⟩
    have hKf := isLen_fits (m := 8 * N - 1) hK
    clear hK hK2
    by_cases hfit : K ≤ 8 * N - 1
    · have hlt : a < p2 (8 * N - 1) := hKf.1 hfit
      have hF : Fits N x := by unfold Fits; unfold Sg at hs; omega
      have q1 : ¬ (8 : Int) * (N : Int) - 1 < (K : Int) := by omega
      clear hKf hfit
      have HF := hide (And.intro hF hlt)
      clear hF hlt
      go_wp2_with (at_make; refine wpList_make_row _ rfl _ _ 28 rfl 5 .u8 1 Tryd.underlying28 Tryd.infoU8 _ _ _ _ N N rfl rfl (by omega) (by omega) (Nat.le_refl _) (by omega) (by unfold maxLen; omega) ?_)
      intro w6 hrow hb6 hz6
      go_wp2_with fail
      with_reducible refine (qbytes_any (A1.arg.below hb6) (by omega)).mono ?_
      rintro e w7 ⟨sb, rfl, ⟨ds, hdc, hdv, hsb⟩, -, hb7⟩
      have hdl : ds.length ≤ N := canon_fits hdc (by have h1 := HF.out.2; have h2 := p2_mono (m := 8 * N - 1) (n := 8 * N) (by omega); rw [p2_8] at h2; omega)
      obtain ⟨rv, hrv⟩ : ∃ rv, rv = ds.reverse := ⟨_, rfl⟩
      rw [← hrv] at hsb
      subst hsb
      obtain ⟨cur, hcur⟩ : ∃ cur, cur = List.replicate N (0 : Int) := ⟨_, rfl⟩
      have hrow7 := hrow.keeps hb7
      rw [← hcur] at hrow7
      have hrl : rv.length = ds.length := by rw [hrv, List.length_reverse]
      have hcl : cur.length = N := by rw [hcur, List.length_replicate]
      have hsz : (((strOfNums rv).size : Nat) : Int) = (ds.length : Int) := by rw [← hrl]; simp [strOfNums, ByteArray.size]
      obtain ⟨off, hoff⟩ : ∃ off, off = N - ds.length := ⟨_, rfl⟩
      have q2 : (N : Int) - (ds.length : Int) = (off : Int) := by omega
      have q4 : (off : Int) ≤ (N : Int) := by omega
      have q5 : (ds.length : Int) ≤ 9223372036854775807 := by omega
      have KB7 := below_trans (below_trans KB hb6) hb7
      have lt7 : w.heap.size ≤ w5.heap.size := KB.size
      have hrok : Nb.Ok rv := by rw [hrv]; exact nb_ok_rev hdc.1
      have hfl : off + rv.length ≤ cur.length := by omega
      have hle : rv.length ≤ N - off := by omega
      have HD := hide (And.intro hdc (And.intro hdv (And.intro hoff (And.intro hrv (And.intro hcur hrl)))))
      have HX := hide (And.intro hrok (And.intro hfl (And.intro hrow7 hle)))
      clear hb6 hb7 KB hrow hdv hoff hdc hdl hrok hfl hrow7 hrv hcur hrl hcl hle
      by_cases hon : off = N
      · have hon' := hon.symm
        subst hon'
        have hrn : rv = [] := by have h1 := HX.out.2.2.2; exact List.eq_nil_of_length_eq_zero (by omega)
        have HRN := hide hrn
        clear hrn
        go_wp2_with (refine wpList_copy_str rfl (.tmp 43) (.tmp 44) 28 9 rfl 5 Tryd.underlying28 Tryd.sizeU8 _ _ _ rv HX.out.1 rfl rfl w5.heap.size N cur 5 HX.out.2.2.1 ?_ ?_ HX.out.2.1 ?_)
        · intro h0; have h1 := HRN.out; rw [h1] at h0; simp at h0
        · have h1 := HX.out.2.2.2
          omega
        intro w8 hr8 hb8
        have hT : cur.take N ++ (rv ++ cur.drop (N + rv.length)) = (ds ++ List.replicate N 0).reverse := by
          have h1 := HD.out.2.2.1
          have h2 := HD.out.2.2.2.2.2
          rw [HD.out.2.2.2.2.1, List.drop_eq_nil_of_le (by first | (simp; done) | (simp; omega)), HD.out.2.2.2.1, List.append_nil, List.reverse_append, List.reverse_replicate, List.take_replicate, Nat.min_eq_left (by omega)]
        rw [hT] at hr8
        have hln : (ds ++ List.replicate N 0).length = N := by have h1 := HD.out.2.2.1; have h2 := HX.out.2.2.2; have h3 := HD.out.2.2.2.2.2; rw [List.length_append, List.length_replicate]; omega
        have hok : Nb.Ok (ds ++ List.replicate N 0) := pad_ok HD.out.1.1
        have hvl : Nb.val (ds ++ List.replicate N 0) = a := by rw [pad_val]; exact HD.out.2.1
        have KB8 := KB7.trans (hb8.mono lt7)
        clear hb8 KB7 HX HD hT
        generalize ds ++ List.replicate N 0 = es at *
        have hcv := row_string (cap := N) hr8
        rw [List.length_reverse, hln] at hcv
        have hts : TStr N x (strOfNums es.reverse) := ⟨es, hok, hln, rfl, by
          rw [hvl, if_neg (by omega)]; unfold Sg at hs; omega⟩
        have HT := hide hts
        clear hts
        go_wp2
        go_ret2
        exact ⟨⟨_, _, rfl, Or.inl ⟨rfl, HF.out.1, HT.out⟩⟩, KB8⟩
      · have q6 : (off : Int) < (N : Int) := by omega
        clear hon
        go_wp2_with (refine wpList_copy_str rfl (.tmp 43) (.tmp 44) 28 9 rfl 5 Tryd.underlying28 Tryd.sizeU8 _ _ _ rv HX.out.1 rfl rfl w5.heap.size off cur 5 HX.out.2.2.1 ?_ ?_ HX.out.2.1 ?_)
        · exact HX.out.2.2.2
        intro w8 hr8 hb8
        have hT : cur.take off ++ (rv ++ cur.drop (off + rv.length)) = (ds ++ List.replicate off 0).reverse := by
          have h1 := HD.out.2.2.1
          have h2 := HD.out.2.2.2.2.2
          rw [HD.out.2.2.2.2.1, List.drop_eq_nil_of_le (by first | (simp; done) | (simp; omega)), HD.out.2.2.2.1, List.append_nil, List.reverse_append, List.reverse_replicate, List.take_replicate, Nat.min_eq_left (by omega)]
        rw [hT] at hr8
        have hln : (ds ++ List.replicate off 0).length = N := by have h1 := HD.out.2.2.1; have h2 := HX.out.2.2.2; have h3 := HD.out.2.2.2.2.2; rw [List.length_append, List.length_replicate]; omega
        have hok : Nb.Ok (ds ++ List.replicate off 0) := pad_ok HD.out.1.1
        have hvl : Nb.val (ds ++ List.replicate off 0) = a := by rw [pad_val]; exact HD.out.2.1
        have KB8 := KB7.trans (hb8.mono lt7)
        clear hb8 KB7 HX HD hT
        generalize ds ++ List.replicate off 0 = es at *
        have hcv := row_string (cap := N) hr8
        rw [List.length_reverse, hln] at hcv
        have hts : TStr N x (strOfNums es.reverse) := ⟨es, hok, hln, rfl, by
          rw [hvl, if_neg (by omega)]; unfold Sg at hs; omega⟩
        have HT := hide hts
        clear hts
        go_wp2
        go_ret2
        exact ⟨⟨_, _, rfl, Or.inl ⟨rfl, HF.out.1, HT.out⟩⟩, KB8⟩
    · have hge : ¬ a < p2 (8 * N - 1) := fun h => hfit (hKf.2 h)
      have hF : ¬ Fits N x := by unfold Fits; unfold Sg at hs; omega
      have q1 : (8 : Int) * (N : Int) - 1 < (K : Int) := by omega
      have HF := hide hF
      clear hKf hge hF
      go_wp2
      go_ret2
      exact ⟨⟨_, _, rfl, Or.inr ⟨rfl, HF.out, rfl⟩⟩, KB⟩

end Go.Proofs.YtgaldbfgmbaebaaDoor

namespace Go.Proofs.YtgaldbfgmbaebaaDoor
open Go.RowKit

set_option maxRecDepth 20000 in
set_option maxHeartbeats 2000000 in
theorem low_d3 {w : World} {B gc ga gg ka : Nat} {va : Value} (h1 : w.cell? ⟨gc, 0, none⟩ = some (.int .i64 0)) (h2 : w.cell? ⟨ga, 0, none⟩ = some va) (h3 : w.cell? ⟨gg, 0, none⟩ = some (.int .u32 0))
    (f1 : w.frozen? ⟨gc, 0, none⟩ = false) (f2 : w.frozen? ⟨ga, 0, none⟩ = false) (f3 : w.frozen? ⟨gg, 0, none⟩ = false) (s1 : gc < w.heap.size) (s2 : ga < w.heap.size) (s3 : gg < w.heap.size)
    (d1 : gc ≠ ga) (d2 : gc ≠ gg) (d3 : ga ≠ gg) (ha : Arg w va 3 ka) (hka : ka ≤ 1099511627776) (b1 : B ≤ gc) (b2 : B ≤ ga) (b3 : B ≤ gg) :
    Calls Tryd.prog 97 #[.pointer (some ⟨gc, 0, none⟩), .pointer (some ⟨ga, 0, none⟩), .pointer (some ⟨gg, 0, none⟩)] w fun e w' => e = .returned (.int .u8 51) ∧ Below B w w' := by
  have hsm := small_yes (d := 1000000000) ha hka (by omega) (by omega)
  obtain ⟨zs0, ⟨ao, cap, rfl, _, _, _⟩, _⟩ := ha
  have t1 : ¬ ga = gc := fun e => d1 e.symm
  have t2 : ¬ gg = gc := fun e => d2 e.symm
  have t3 : ¬ gg = ga := fun e => d3 e.symm
  go_enter Tryd.func97, Tryd.ntmps97
  go_wp2_with fail
  refine hsm.mono ?_
  clear hsm
  rintro e w1 ⟨v, rfl, ⟨zs, ⟨vo, rfl, _, _⟩, _, _, _⟩, hb⟩
  have k1 := (hb.cell (p := ⟨gc, 0, none⟩) s1).trans h1
  have k2 := (hb.cell (p := ⟨ga, 0, none⟩) s2).trans h2
  have k3 := (hb.cell (p := ⟨gg, 0, none⟩) s3).trans h3
  have l1 := (hb.frozen (p := ⟨gc, 0, none⟩) s1).trans f1
  have l2 := (hb.frozen (p := ⟨ga, 0, none⟩) s2).trans f2
  have l3 := (hb.frozen (p := ⟨gg, 0, none⟩) s3).trans f3
  have r7 : (3 : Int) % 1000000000 = 3 := by decide
  go_wp2
  go_ret
  exact ⟨rfl, ((((((hb.mono (by omega)).setCell (p := ⟨ga, 0, none⟩) b2 _).setCell (p := ⟨gg, 0, none⟩) b3 _).setCell (p := ⟨gc, 0, none⟩) b1 _).setCell (p := ⟨gg, 0, none⟩) b3 _).setCell (p := ⟨gc, 0, none⟩) b1 _)⟩

set_option maxRecDepth 20000 in
set_option maxHeartbeats 2000000 in
theorem tell_d3 {w : World} {gt ka : Nat} {va : Value} (hr : Row .u8 5 w gt [0]) (ha : Arg w va 3 ka) (hka : ka ≤ 1099511627776) :
    Calls Tryd.prog 38 #[.slice (some ⟨gt, 0, none⟩) 1 1, va, .slice none 0 0] w fun e w' => e = .returned (.tuple #[]) ∧ Row .u8 5 w' gt [51] ∧ Below gt w w' := by
  have ha' := ha
  obtain ⟨zs0, ⟨ao, cap, rfl, _, _, _⟩, _⟩ := ha
  have hgt := hr.lt
  go_enter Tryd.func38, Tryd.ntmps38
  go_wp2_with fail
  refine lowest_any.mono ?_
  rintro e w1 ⟨rfl, h2, h3, h1, f2, f3, f1, hsz, hb⟩
  have hlow := low_d3 (w := w1) (B := w.heap.size) (gc := w.heap.size + 2) (ga := w.heap.size) (gg := w.heap.size + 1) h1 h2 h3 f1 f2 f3 (by omega) (by omega) (by omega) (by omega) (by omega) (by omega) (ha'.below hb) hka (by omega) (by omega) (by omega)
  clear h1 h2 h3 f1 f2 f3 ha'
  go_wp2
  refine wp_loop_rounds 2 ?_
  rw [rounds_succ]
  go_wp2_with fail
  with_reducible refine hlow.mono ?_
  clear hlow
  rintro e w2 ⟨rfl, hb2⟩
  have hr2 : Row .u8 5 w2 gt [0] := (hr.keeps hb).below hb2 hgt
  have hc0 : w2.cell? ⟨gt, 0, none⟩ = some (.int .u8 0) := hr2.cell (i := 0) (by simp)
  have hf0 := hr2.frozen 0
  have hbb : Below gt w w2 := ((hb.mono (by omega)).trans (hb2.mono (by omega)))
  go_wp2
  rw [rounds_succ]
  go_wp2
  refine bodyPost_ret (results_none rfl _ _ _) rfl ?_
  exact ⟨rfl, hr2.set 0 51, hbb.setCell (p := ⟨gt, 0, none⟩) (Nat.le_refl _) _⟩

set_option maxRecDepth 20000 in
set_option maxHeartbeats 2000000 in
theorem trimLeft_d3 {w : World} :
    Calls Tryd.prog 40 #[.string ⟨#[51]⟩, .string ⟨#[48]⟩] w fun e w' => e = .returned (.string ⟨#[51]⟩) ∧ w' = w := by
  have hb : Calls Tryd.prog 75 #[.string ⟨#[51]⟩, .int .u8 48] w fun e w' => e = .returned (.string ⟨#[51]⟩) ∧ w' = w := by
    go_enter Tryd.func75, Tryd.ntmps75
    go_wp2
    refine wp_loop_rounds 1 ?_
    rw [rounds_succ]
    go_wp2
    go_ret
    exact ⟨rfl, rfl⟩
  go_enter Tryd.func40, Tryd.ntmps40
  go_wp2_with fail
  refine hb.mono ?_
  rintro e w' ⟨rfl, rfl⟩
  go_wp2
  go_ret
  exact ⟨rfl, rfl⟩

set_option maxRecDepth 20000 in
set_option maxHeartbeats 2000000 in
theorem digits_d3 {w : World} {va : Value} {ka : Nat} (ha : Arg w va 3 ka) (hka : ka ≤ 1099511627776) :
    Calls Tryd.prog 7 #[va] w fun e w' => e = .returned (.string ⟨#[51]⟩) ∧ Below w.heap.size w w' := by
  go_enter Tryd.func7, Tryd.ntmps7
  go_wp2_with fail
  refine (len_any ha hka).mono ?_
  rintro e w' ⟨k, rfl, hk, _, rfl⟩
  have hk3 : k = 2 := isLen_unique hk ⟨by decide, fun _ => by decide⟩
  subst hk3
  clear hk
  go_wp2_with fail
  refine (room_any (n := 2) (by omega) (by omega)).mono ?_
  rintro e w1 ⟨rfl, rfl⟩
  go_wp2_with (at_make; refine wpList_make_row _ rfl _ _ 28 rfl 5 .u8 1 Tryd.underlying28 Tryd.infoU8 _ _ _ _ 1 1 rfl rfl (by omega) (by omega) (Nat.le_refl _) (by omega) (by unfold maxLen; omega) ?_)
  intro w2 hr hbel hsz
  replace hr : Row .u8 5 w2 w1.heap.size [0] := hr
  go_wp2_with fail
  refine (tens_none (n := 1) (by omega)).mono ?_
  rintro e w3 ⟨rfl, rfl⟩
  go_wp2_with fail
  refine (tell_d3 hr (ha.below hbel) hka).mono ?_
  rintro e w4 ⟨rfl, hr4, hb4⟩
  have hcv := row_string (cap := 1) hr4
  have hs9 : strOfNums [51] = ⟨#[51]⟩ := rfl
  have l1 : ([51] : List Int).length = 1 := rfl
  rw [hs9, l1] at hcv
  go_wp2_with fail
  refine trimLeft_d3.mono ?_
  rintro e w5 ⟨rfl, rfl⟩
  go_wp2
  go_ret
  exact ⟨rfl, hbel.trans hb4⟩

set_option maxRecDepth 20000 in
set_option maxHeartbeats 2000000 in
theorem low_d1 {w : World} {B gc ga gg ka : Nat} {va : Value} (h1 : w.cell? ⟨gc, 0, none⟩ = some (.int .i64 0)) (h2 : w.cell? ⟨ga, 0, none⟩ = some va) (h3 : w.cell? ⟨gg, 0, none⟩ = some (.int .u32 0))
    (f1 : w.frozen? ⟨gc, 0, none⟩ = false) (f2 : w.frozen? ⟨ga, 0, none⟩ = false) (f3 : w.frozen? ⟨gg, 0, none⟩ = false) (s1 : gc < w.heap.size) (s2 : ga < w.heap.size) (s3 : gg < w.heap.size)
    (d1 : gc ≠ ga) (d2 : gc ≠ gg) (d3 : ga ≠ gg) (ha : Arg w va 1 ka) (hka : ka ≤ 1099511627776) (b1 : B ≤ gc) (b2 : B ≤ ga) (b3 : B ≤ gg) :
    Calls Tryd.prog 97 #[.pointer (some ⟨gc, 0, none⟩), .pointer (some ⟨ga, 0, none⟩), .pointer (some ⟨gg, 0, none⟩)] w fun e w' => e = .returned (.int .u8 49) ∧ Below B w w' := by
  have hsm := small_yes (d := 1000000000) ha hka (by omega) (by omega)
  obtain ⟨zs0, ⟨ao, cap, rfl, _, _, _⟩, _⟩ := ha
  have t1 : ¬ ga = gc := fun e => d1 e.symm
  have t2 : ¬ gg = gc := fun e => d2 e.symm
  have t3 : ¬ gg = ga := fun e => d3 e.symm
  go_enter Tryd.func97, Tryd.ntmps97
  go_wp2_with fail
  refine hsm.mono ?_
  clear hsm
  rintro e w1 ⟨v, rfl, ⟨zs, ⟨vo, rfl, _, _⟩, _, _, _⟩, hb⟩
  have k1 := (hb.cell (p := ⟨gc, 0, none⟩) s1).trans h1
  have k2 := (hb.cell (p := ⟨ga, 0, none⟩) s2).trans h2
  have k3 := (hb.cell (p := ⟨gg, 0, none⟩) s3).trans h3
  have l1 := (hb.frozen (p := ⟨gc, 0, none⟩) s1).trans f1
  have l2 := (hb.frozen (p := ⟨ga, 0, none⟩) s2).trans f2
  have l3 := (hb.frozen (p := ⟨gg, 0, none⟩) s3).trans f3
  have r7 : (1 : Int) % 1000000000 = 1 := by decide
  go_wp2
  go_ret
  exact ⟨rfl, ((((((hb.mono (by omega)).setCell (p := ⟨ga, 0, none⟩) b2 _).setCell (p := ⟨gg, 0, none⟩) b3 _).setCell (p := ⟨gc, 0, none⟩) b1 _).setCell (p := ⟨gg, 0, none⟩) b3 _).setCell (p := ⟨gc, 0, none⟩) b1 _)⟩

set_option maxRecDepth 20000 in
set_option maxHeartbeats 2000000 in
theorem tell_d1 {w : World} {gt ka : Nat} {va : Value} (hr : Row .u8 5 w gt [0]) (ha : Arg w va 1 ka) (hka : ka ≤ 1099511627776) :
    Calls Tryd.prog 38 #[.slice (some ⟨gt, 0, none⟩) 1 1, va, .slice none 0 0] w fun e w' => e = .returned (.tuple #[]) ∧ Row .u8 5 w' gt [49] ∧ Below gt w w' := by
  have ha' := ha
  obtain ⟨zs0, ⟨ao, cap, rfl, _, _, _⟩, _⟩ := ha
  have hgt := hr.lt
  go_enter Tryd.func38, Tryd.ntmps38
  go_wp2_with fail
  refine lowest_any.mono ?_
  rintro e w1 ⟨rfl, h2, h3, h1, f2, f3, f1, hsz, hb⟩
  have hlow := low_d1 (w := w1) (B := w.heap.size) (gc := w.heap.size + 2) (ga := w.heap.size) (gg := w.heap.size + 1) h1 h2 h3 f1 f2 f3 (by omega) (by omega) (by omega) (by omega) (by omega) (by omega) (ha'.below hb) hka (by omega) (by omega) (by omega)
  clear h1 h2 h3 f1 f2 f3 ha'
  go_wp2
  refine wp_loop_rounds 2 ?_
  rw [rounds_succ]
  go_wp2_with fail
  with_reducible refine hlow.mono ?_
  clear hlow
  rintro e w2 ⟨rfl, hb2⟩
  have hr2 : Row .u8 5 w2 gt [0] := (hr.keeps hb).below hb2 hgt
  have hc0 : w2.cell? ⟨gt, 0, none⟩ = some (.int .u8 0) := hr2.cell (i := 0) (by simp)
  have hf0 := hr2.frozen 0
  have hbb : Below gt w w2 := ((hb.mono (by omega)).trans (hb2.mono (by omega)))
  go_wp2
  rw [rounds_succ]
  go_wp2
  refine bodyPost_ret (results_none rfl _ _ _) rfl ?_
  exact ⟨rfl, hr2.set 0 49, hbb.setCell (p := ⟨gt, 0, none⟩) (Nat.le_refl _) _⟩

set_option maxRecDepth 20000 in
set_option maxHeartbeats 2000000 in
theorem trimLeft_d1 {w : World} :
    Calls Tryd.prog 40 #[.string ⟨#[49]⟩, .string ⟨#[48]⟩] w fun e w' => e = .returned (.string ⟨#[49]⟩) ∧ w' = w := by
  have hb : Calls Tryd.prog 75 #[.string ⟨#[49]⟩, .int .u8 48] w fun e w' => e = .returned (.string ⟨#[49]⟩) ∧ w' = w := by
    go_enter Tryd.func75, Tryd.ntmps75
    go_wp2
    refine wp_loop_rounds 1 ?_
    rw [rounds_succ]
    go_wp2
    go_ret
    exact ⟨rfl, rfl⟩
  go_enter Tryd.func40, Tryd.ntmps40
  go_wp2_with fail
  refine hb.mono ?_
  rintro e w' ⟨rfl, rfl⟩
  go_wp2
  go_ret
  exact ⟨rfl, rfl⟩

set_option maxRecDepth 20000 in
set_option maxHeartbeats 2000000 in
theorem digits_d1 {w : World} {va : Value} {ka : Nat} (ha : Arg w va 1 ka) (hka : ka ≤ 1099511627776) :
    Calls Tryd.prog 7 #[va] w fun e w' => e = .returned (.string ⟨#[49]⟩) ∧ Below w.heap.size w w' := by
  go_enter Tryd.func7, Tryd.ntmps7
  go_wp2_with fail
  refine (len_any ha hka).mono ?_
  rintro e w' ⟨k, rfl, hk, _, rfl⟩
  have hk3 : k = 1 := isLen_unique hk ⟨by decide, fun _ => by decide⟩
  subst hk3
  clear hk
  go_wp2_with fail
  refine (room_any (n := 1) (by omega) (by omega)).mono ?_
  rintro e w1 ⟨rfl, rfl⟩
  go_wp2_with (at_make; refine wpList_make_row _ rfl _ _ 28 rfl 5 .u8 1 Tryd.underlying28 Tryd.infoU8 _ _ _ _ 1 1 rfl rfl (by omega) (by omega) (Nat.le_refl _) (by omega) (by unfold maxLen; omega) ?_)
  intro w2 hr hbel hsz
  replace hr : Row .u8 5 w2 w1.heap.size [0] := hr
  go_wp2_with fail
  refine (tens_none (n := 1) (by omega)).mono ?_
  rintro e w3 ⟨rfl, rfl⟩
  go_wp2_with fail
  refine (tell_d1 hr (ha.below hbel) hka).mono ?_
  rintro e w4 ⟨rfl, hr4, hb4⟩
  have hcv := row_string (cap := 1) hr4
  have hs9 : strOfNums [49] = ⟨#[49]⟩ := rfl
  have l1 : ([49] : List Int).length = 1 := rfl
  rw [hs9, l1] at hcv
  go_wp2_with fail
  refine trimLeft_d1.mono ?_
  rintro e w5 ⟨rfl, rfl⟩
  go_wp2
  go_ret
  exact ⟨rfl, hbel.trans hb4⟩


set_option maxRecDepth 20000 in
set_option maxHeartbeats 4000000 in
theorem isNumber_5 {w : World} :
    Calls Tryd.prog 57 #[.string ⟨#[53]⟩] w fun e w' => e = .returned (.bool true) ∧ w' = w := by
  have c0 : ((({ data := #[53] } : ByteArray)[0].toNat : Nat) : Int) = 53 := rfl
  go_enter Tryd.func57, Tryd.ntmps57
  go_wp2
  refine wp_loop_rounds 2 ?_
  rw [rounds_succ]
  go_wp2
  rw [rounds_succ]
  go_wp2
  go_ret
  exact ⟨rfl, rfl⟩

set_option maxRecDepth 20000 in
set_option maxHeartbeats 8000000 in
theorem leaf_5 {w : World} :
    Calls Tryd.prog 87 #[.string ⟨#[53]⟩] w fun e w' => ∃ v, e = .returned v ∧ Num w.heap.size w' v 5 2 ∧ Below w.heap.size w w' := by
  have c0 : ((({ data := #[53] } : ByteArray)[0].toNat : Nat) : Int) = 53 := rfl
  go_enter Tryd.func87, Tryd.ntmps87
  go_wp2
  refine wp_loop_rounds 2 ?_
  rw [rounds_succ]
  go_wp2
  refine wp_loop_rounds 2 ?_
  rw [rounds_succ]
  go_wp2
  rw [rounds_succ]
  go_wp2_with fail
  refine (mul_any (arg_nil _) (arg_one w (x := 1000000000) (by omega)) (by omega) (by omega)).mono ?_
  rintro e w1 ⟨v1, rfl, hn1, hb1⟩
  have hb01 := below_trans (below_alloc w _) hb1
  go_wp2_with fail
  refine (add_any (hn1.arg.below (below_alloc w1 _)) (arg_one w1 (x := 5) (by omega)) (by omega) (by omega)).mono ?_
  rintro e w2 ⟨v2, rfl, hn2, hb2⟩
  have hb02 := below_trans hb01 (below_trans (below_alloc w1 _) hb2)
  have hv : (0 : Int) * 1000000000 + 5 = 5 := by decide
  rw [hv] at hn2
  have hnum : Num w.heap.size w2 v2 5 2 := (hn2.low (by have := hb01.size; simp; omega)).tight (by simp [Nt.pw])
  have HN := hide hnum
  clear hn1 hb1 hb2 hb01 hn2 hnum hv
  have x2 : ({ data := #[53] } : ByteArray).extract 1 1 = { data := #[] } := rfl
  go_wp2
  rw [rounds_succ]
  go_wp2
  go_ret
  exact ⟨_, rfl, HN.out, hb02⟩

set_option maxRecDepth 20000 in
set_option maxHeartbeats 1000000 in
theorem number_5 {w : World} :
    Calls Tryd.prog 58 #[.string ⟨#[53]⟩, .slice none 0 0] w fun e w' => ∃ v, e = .returned v ∧ Num w.heap.size w' v 5 2 ∧ Below w.heap.size w w' := by
  go_enter Tryd.func58, Tryd.ntmps58
  go_wp2_with fail
  refine leaf_5.mono ?_
  rintro e w1 ⟨v, rfl, hn, hb⟩
  go_wp2
  go_ret
  exact ⟨_, rfl, hn, hb⟩

set_option maxRecDepth 20000 in
set_option maxHeartbeats 2000000 in
theorem read_5 {w : World} :
    Calls Tryd.prog 15 #[.string ⟨#[53]⟩] w fun e w' => ∃ v, e = .returned (.tuple #[v, .bool true]) ∧ Num w.heap.size w' v 5 2 ∧ Below w.heap.size w w' := by
  go_enter Tryd.func15, Tryd.ntmps15
  go_wp2_with fail
  refine isNumber_5.mono ?_
  rintro e w' ⟨rfl, rfl⟩
  go_wp2_with fail
  refine (room_any (n := 8388608) (by omega) (by omega)).mono ?_
  rintro e w' ⟨rfl, rfl⟩
  go_wp2_with fail
  refine (tens_none (n := 1) (by omega)).mono ?_
  rintro e w' ⟨rfl, rfl⟩
  go_wp2_with fail
  refine number_5.mono ?_
  rintro e w1 ⟨v, rfl, hn, hb⟩
  have hn2 := hn
  obtain ⟨zs, ⟨ao, rfl, _, _⟩, _, _, hk⟩ := hn
  have hk2 : ¬ (262144 : Int) < (zs.length : Int) := by omega
  have HN := hide hn2
  clear hn2
  go_wp2
  go_ret2
  exact ⟨_, rfl, HN.out, hb⟩

end Go.Proofs.YtgaldbfgmbaebaaDoor

namespace Go.Proofs.YtgaldbfgmbaebaaDoor
open Go.RowKit

theorem below_trans' {a b c : World} (k : Below b.heap.size b c) (h : Below a.heap.size a b) : Below a.heap.size a c := below_trans h k
theorem after1 {w w2 : World} {x y : Value} {t : TypeId} (hb : Below (w.alloc (.cells #[x, y] t)).heap.size (w.alloc (.cells #[x, y] t)) w2) : Cell2 w2 w.heap.size x y ∧ True := ⟨(cell2_new w x y t).below hb, trivial⟩
theorem after2 {w w2 : World} {x y x' y' : Value} {t t' : TypeId} (hb : Below ((w.alloc (.cells #[x, y] t)).alloc (.cells #[x', y'] t')).heap.size ((w.alloc (.cells #[x, y] t)).alloc (.cells #[x', y'] t')) w2) : Cell2 w2 w.heap.size x y ∧ Cell2 w2 (w.heap.size + 1) x' y' := by
  refine ⟨((cell2_new w x y t).alloc _).below hb, ?_⟩
  have h := (cell2_new (w.alloc (.cells #[x, y] t)) x' y' t').below hb
  rw [show (w.alloc (.cells #[x, y] t)).heap.size = w.heap.size + 1 by simp] at h
  exact h

theorem after1_k {G : Prop} {w w2 : World} {x y : Value} {t : TypeId} (h : Cell2 w2 w.heap.size x y → Below (w.alloc (.cells #[x, y] t)).heap.size (w.alloc (.cells #[x, y] t)) w2 → G) : Below (w.alloc (.cells #[x, y] t)).heap.size (w.alloc (.cells #[x, y] t)) w2 → G := fun hb => h (after1 hb).1 hb
theorem after2_k {G : Prop} {w w2 : World} {x y x' y' : Value} {t t' : TypeId} (h : Cell2 w2 w.heap.size x y ∧ Cell2 w2 (w.heap.size + 1) x' y' → Below ((w.alloc (.cells #[x, y] t)).alloc (.cells #[x', y'] t')).heap.size ((w.alloc (.cells #[x, y] t)).alloc (.cells #[x', y'] t')) w2 → G) : Below ((w.alloc (.cells #[x, y] t)).alloc (.cells #[x', y'] t')).heap.size ((w.alloc (.cells #[x, y] t)).alloc (.cells #[x', y'] t')) w2 → G := fun hb => h (after2 hb) hb

theorem after1d_k {G : Prop} {w w2 : World} {x y : Value} {t : TypeId} (h : Cell2 w2 w.heap.size x y → Below (w.alloc (.cells #[x, y] t)).drew.heap.size (w.alloc (.cells #[x, y] t)).drew w2 → G) : Below (w.alloc (.cells #[x, y] t)).drew.heap.size (w.alloc (.cells #[x, y] t)).drew w2 → G :=
  fun hb => h (((cell2_new w x y t).below (Below.refl _ _).drew).below hb) hb
theorem after2d_k {G : Prop} {w w2 : World} {x y x' y' : Value} {t t' : TypeId} (h : Cell2 w2 w.heap.size x y ∧ Cell2 w2 (w.heap.size + 1) x' y' → Below ((w.alloc (.cells #[x, y] t)).alloc (.cells #[x', y'] t')).drew.heap.size ((w.alloc (.cells #[x, y] t)).alloc (.cells #[x', y'] t')).drew w2 → G) : Below ((w.alloc (.cells #[x, y] t)).alloc (.cells #[x', y'] t')).drew.heap.size ((w.alloc (.cells #[x, y] t)).alloc (.cells #[x', y'] t')).drew w2 → G :=
  fun hb => h (after2 (below_trans (Below.refl _ _).drew hb)) hb

/-- two new cells behind one another -/
theorem two_aa {w wn : World} (K : Below w.heap.size w wn) (x y x' y' : Value) (t t' : TypeId) :
    Cell2 ((wn.alloc (.cells #[x, y] t)).alloc (.cells #[x', y'] t')) wn.heap.size x y ∧ Cell2 ((wn.alloc (.cells #[x, y] t)).alloc (.cells #[x', y'] t')) (wn.heap.size + 1) x' y' ∧ Below w.heap.size w ((wn.alloc (.cells #[x, y] t)).alloc (.cells #[x', y'] t')) ∧
      ∀ {B : Nat} {v : Value} {n : Int} {k : Nat}, WNum B wn v n k → WNum 0 ((wn.alloc (.cells #[x, y] t)).alloc (.cells #[x', y'] t')) v n k := by
  have hb : Below wn.heap.size wn ((wn.alloc (.cells #[x, y] t)).alloc (.cells #[x', y'] t')) := below_trans (bel_alloc _ _) (bel_alloc _ _)
  have h := after2 (Below.refl _ ((wn.alloc (.cells #[x, y] t)).alloc (.cells #[x', y'] t')))
  exact ⟨h.1, h.2, below_trans K hb, fun q => (q.below hb).low (Nat.zero_le _)⟩
/-- one is written, one is new -/
theorem two_sa {w wn : World} {b : Nat} {u u' : Value} (K : Below w.heap.size w wn) (Z : Cell2 wn b u u') (hb : w.heap.size ≤ b) (x y x' y' : Value) (t : TypeId) :
    Cell2 (((wn.setCell ⟨b, 0, none⟩ x).setCell ⟨b, 1, none⟩ y).alloc (.cells #[x', y'] t)) b x y ∧ Cell2 (((wn.setCell ⟨b, 0, none⟩ x).setCell ⟨b, 1, none⟩ y).alloc (.cells #[x', y'] t)) wn.heap.size x' y' ∧ b ≠ wn.heap.size ∧ Below w.heap.size w (((wn.setCell ⟨b, 0, none⟩ x).setCell ⟨b, 1, none⟩ y).alloc (.cells #[x', y'] t)) ∧
      ∀ {B : Nat} {v : Value} {n : Int} {k : Nat}, WNum B wn v n k → b < B → WNum 0 (((wn.setCell ⟨b, 0, none⟩ x).setCell ⟨b, 1, none⟩ y).alloc (.cells #[x', y'] t)) v n k := by
  have hz : ((wn.setCell ⟨b, 0, none⟩ x).setCell ⟨b, 1, none⟩ y).heap.size = wn.heap.size := by simp [World.setCell]
  have hk := below_put2 K hb x y
  have hn := cell2_new ((wn.setCell ⟨b, 0, none⟩ x).setCell ⟨b, 1, none⟩ y) x' y' t
  rw [hz] at hn
  refine ⟨(Z.put x y).alloc _, hn, Nat.ne_of_lt Z.lt, below_trans hk (bel_alloc _ _), fun q hB => ?_⟩
  exact (((q.put hB 0 x).put hB 1 y).below (bel_alloc _ _)).low (Nat.zero_le _)
/-- both are written -/
theorem two_ss {w wn : World} {b c : Nat} {u u' z z' : Value} (K : Below w.heap.size w wn) (Z : Cell2 wn b u u') (Z' : Cell2 wn c z z') (hb : w.heap.size ≤ b) (hc : w.heap.size ≤ c) (hn : b ≠ c) (x y x' y' : Value) :
    Cell2 ((((wn.setCell ⟨b, 0, none⟩ x).setCell ⟨b, 1, none⟩ y).setCell ⟨c, 0, none⟩ x').setCell ⟨c, 1, none⟩ y') b x y ∧ Cell2 ((((wn.setCell ⟨b, 0, none⟩ x).setCell ⟨b, 1, none⟩ y).setCell ⟨c, 0, none⟩ x').setCell ⟨c, 1, none⟩ y') c x' y' ∧ Below w.heap.size w ((((wn.setCell ⟨b, 0, none⟩ x).setCell ⟨b, 1, none⟩ y).setCell ⟨c, 0, none⟩ x').setCell ⟨c, 1, none⟩ y') ∧
      ∀ {B : Nat} {v : Value} {n : Int} {k : Nat}, WNum B wn v n k → b < B → c < B → WNum 0 ((((wn.setCell ⟨b, 0, none⟩ x).setCell ⟨b, 1, none⟩ y).setCell ⟨c, 0, none⟩ x').setCell ⟨c, 1, none⟩ y') v n k :=
  ⟨(Z.put x y).away hn _ _, (Z'.away (fun e => hn e.symm) _ _).put _ _, below_put2 (below_put2 K hb x y) hc x' y', fun q h1 h2 => ((((q.put h1 0 x).put h1 1 y).put h2 0 x').put h2 1 y').low (Nat.zero_le _)⟩

theorem Num.putc {B : Nat} {w : World} {v : Value} {n : Int} {k b : Nat} {z : Bool} {u : Value} (h : Num B w v n k) (Z : Cell2 w b (.bool z) u) (x y : Value) : Num B ((w.setCell ⟨b, 0, none⟩ x).setCell ⟨b, 1, none⟩ y) v n k := by
  obtain ⟨zs, ⟨ao, h1, h2, h3⟩, h4⟩ := h
  refine ⟨zs, ⟨ao, h1, h2, fun hp => ?_⟩, h4⟩
  obtain ⟨g, rest, h5, h6, h7⟩ := h3 hp
  have hne : g ≠ b := by
    intro e
    subst e
    have hc := h7.cell (i := 0) (by rw [List.length_append]; omega)
    rw [Z.c0] at hc
    cases hc
  refine ⟨g, rest, h5, h6, ?_⟩
  unfold Row
  rw [Below.heap_setCell _ _ _ _ (by show g ≠ b; exact hne), Below.heap_setCell _ _ _ _ (by show g ≠ b; exact hne)]
  exact h7
theorem WNum.putc {B : Nat} {w : World} {v : Value} {n : Int} {k b : Nat} {z : Bool} {u : Value} (h : WNum B w v n k) (Z : Cell2 w b (.bool z) u) (x y : Value) : WNum B ((w.setCell ⟨b, 0, none⟩ x).setCell ⟨b, 1, none⟩ y) v n k := by
  obtain ⟨neg, m, a, rfl, h1, h2⟩ := h
  exact ⟨neg, m, a, rfl, h1.putc Z x y, h2⟩
theorem WNum.sign {B : Nat} {w : World} {ng : Bool} {m : Value} {n : Int} {k : Nat} (h : WNum B w (.agg #[.bool ng, m]) n k) : (ng = true → n < 0) ∧ (ng = false → 0 ≤ n) := by
  obtain ⟨neg, m', a, e, h1, rfl, h3⟩ := h
  simp at e
  obtain ⟨rfl, rfl⟩ := e
  have := h1.arg.nonneg
  unfold wn
  cases ng
  · exact ⟨fun h => (by cases h), fun _ => this⟩
  · exact ⟨fun _ => (by have h4 := h3 rfl; simp; exact h4), fun h => (by cases h)⟩

theorem wcmp_told {w : World} {v1 : Value} {n1 : Int} {k1 : Nat} {v2 : Value} {n2 : Int} {k2 : Nat} {c : Int} (hc : sgn n1 n2 = c) (h1 : WArg w v1 n1 k1) (h2 : WArg w v2 n2 k2) (j1 : k1 ≤ 1099511627776) (j2 : k2 ≤ 1099511627776) :
    Calls Tryd.prog 27 #[v1, v2] w fun e w' => e = .returned (.int .i64 c) ∧ Below w.heap.size w w' := by
  subst hc
  exact wcmp_any h1 h2 j1 j2

theorem wnum_zero (B : Nat) (w : World) (k : Nat) : WNum B w (.agg #[.bool false, .slice none 0 0]) 0 k :=
  ⟨false, _, 0, rfl, ⟨[], ⟨none, rfl, by unfold maxLen; simp, fun h => absurd h (by simp)⟩, Nt.canon_nil, rfl, Nat.zero_le _⟩, rfl, fun h => by cases h⟩

theorem wnum_eq {ng ng' : Bool} {a b n m : Int} (ha : n = wn ng a) (hb : m = wn ng' b) (pa : ng = true → 0 < a) (pb : ng' = true → 0 < b) (na : 0 ≤ a) (nb : 0 ≤ b) (he : n = m) : ng = ng' ∧ a = b := by
  subst ha
  subst hb
  unfold wn at he
  cases ng <;> cases ng' <;> simp at * <;> omega

set_option maxHeartbeats 1000000 in
theorem wsame_any {w : World} {va vb : Value} {n m : Int} {B B' k k' : Nat} (ha : WNum B w va n k) (hb : WNum B' w vb m k') (he : n = m) :
    Calls Tryd.prog 24 #[va, vb] w fun e w' => e = .returned (.bool true) ∧ Below w.heap.size w w' := by
  obtain ⟨ng, m1, a, rfl, h1, h2, h3⟩ := ha
  obtain ⟨ng', m2, b, rfl, k1, k2, k3⟩ := hb
  obtain ⟨rfl, rfl⟩ := wnum_eq h2 k2 h3 k3 h1.arg.nonneg k1.arg.nonneg he
  clear h2 k2 h3 k3 he
  have H1 := h1
  have K1 := k1
  obtain ⟨xs, ⟨ao, rfl, _, _⟩, _⟩ := h1
  obtain ⟨ys, ⟨bo, rfl, _, _⟩, _⟩ := k1
  have hB : Below w.heap.size w ((w.alloc (.cells #[.bool ng, .slice ao xs.length xs.length] 38)).alloc (.cells #[.bool ng, .slice bo ys.length ys.length] 38)) := below_trans (bel_alloc _ _) (bel_alloc _ _)
  have hc := same_num (H1.below hB) (K1.below hB) rfl
  have q : (ng == ng) = true := by simp
  clear H1 K1
  go_enter Tryd.func24, Tryd.ntmps24
  go_wp2_with fail
  with_reducible refine hc.mono ?_
  rintro e w3 ⟨rfl, hb3⟩
  go_wp2
  go_ret
  exact ⟨rfl, hB.trans (hb3.mono hB.size)⟩

set_option maxRecDepth 20000 in
set_option maxHeartbeats 1000000 in
theorem normal_any {w : World} {v : Value} {n : Int} {B k : Nat} (h : WNum B w v n k) :
    Calls Tryd.prog 26 #[v] w fun e w' => e = .returned (.bool true) ∧ Below w.heap.size w w' := by
  obtain ⟨ng, m1, a, rfl, h1, h2, h3⟩ := h
  have h1' := h1
  obtain ⟨zs, ⟨ao, rfl, hm, hr⟩, hc, hv, _⟩ := h1
  have hB : Below w.heap.size w (w.alloc (.cells #[.bool ng, .slice ao zs.length zs.length] 38)) := bel_alloc _ _
  unfold maxLen at hm
  by_cases hz : zs = []
  · subst hz
    have hng : ng = false := by
      cases ng
      · rfl
      · have h4 := h3 rfl
        rw [← hv] at h4
        exact absurd h4 (by decide)
    subst hng
    go_enter Tryd.func26, Tryd.ntmps26
    go_wp2
    go_ret
    exact ⟨rfl, hB⟩
  · have hp := List.length_pos_iff.2 hz
    have ht := hc.2 hz
    obtain ⟨g, rest, rfl, _, hrow⟩ := hr hp
    have hcell := (hrow.keeps hB).cell (i := zs.length - 1) (by rw [List.length_append]; omega)
    rw [lb_append_left (by omega)] at hcell
    obtain ⟨l, hl⟩ : ∃ l, l = zs.length - 1 := ⟨_, rfl⟩
    rw [← hl] at hcell ht
    obtain ⟨L, hL⟩ : ∃ L, L = zs.length := ⟨_, rfl⟩
    rw [← hL] at hcell hB ⊢
    have q1 : (L : Int) - 1 = (l : Int) := by omega
    have q2 : (l : Int) < (L : Int) := by omega
    have q3 : ((L : Int) == 0) = false := by simp; omega
    have q4 : (Nt.lb zs l != 0) = true := by simp [ht]
    have q5 : (L : Int) ≤ 9223372036854775807 := by omega
    have q6 : (0 : Int) < (L : Int) := by omega
    clear hl hr hrow hm hL hz hp ht h1' hc hv h2 h3
    go_enter Tryd.func26, Tryd.ntmps26
    go_wp2
    go_ret
    exact ⟨rfl, hB⟩

/-- a cell of a list of structs -/
theorem beyond_one {w : World} {ao : Option Addr} {l cap : Nat} (hl : l ≤ 70368744177664) :
    Calls Tryd.prog 59 #[.slice (some ⟨w.heap.size, 0, none⟩) 1 1] (w.alloc (.cells #[.slice ao l cap] 23)) fun e w' => e = .returned (.bool (decide (1048576 < 1 + l))) ∧ w' = w.alloc (.cells #[.slice ao l cap] 23) := by
  have h := beyond_any (w := w.alloc (.cells #[.slice ao l cap] 23)) (g := w.heap.size) (ls := [l]) (by simp) (fun i => by
    match i with
    | 0 => simpa using hl
    | i + 1 => simp) (fun i hi => by
    match i, hi with
    | 0, _ => exact ⟨ao, cap, by rw [World.cell?_alloc_at _ _ _ _ rfl]; rfl⟩)
  refine h.mono ?_
  rintro e w' ⟨rfl, rfl⟩
  refine ⟨?_, rfl⟩
  have e1 : decide (1048576 < tot [l]) = decide (1048576 < 1 + l) := decide_eq_decide.2 (by simp [tot])
  rw [e1]

set_option maxRecDepth 20000 in
set_option maxHeartbeats 2000000 in
theorem wbeyond_any {w : World} {g : Nat} {ls : List Nat} (hm : ls.length ≤ 1000) (hl : ∀ i, ls.getD i 0 ≤ 70368744177664) (hg : g < w.heap.size)
    (hc : ∀ i, i < ls.length → ∃ ao cap, w.cell? ⟨g, i * 2 + 1, none⟩ = some (.slice ao (ls.getD i 0) cap)) :
    Calls Tryd.prog 17 #[.slice (some ⟨g, 0, none⟩) ls.length ls.length] w fun e w' => e = .returned (.bool (decide (∃ i, i < ls.length ∧ 1048576 < 1 + ls.getD i 0))) ∧ Below w.heap.size w w' := by
  go_enter Tryd.func17, Tryd.ntmps17
  go_wp2
  go_loopw [3] (fun i wr => ∃ k : Nat, k ≤ ls.length ∧ i = .int .i64 k ∧ (∀ j, j < k → ¬ 1048576 < 1 + ls.getD j 0) ∧ Below w.heap.size w wr) (fun i _ => ls.length - (intOf i).toNat)
  case atStart => exact ⟨0, Nat.zero_le _, rfl, fun j hj => by omega, Below.refl _ _⟩
  case round =>
    obtain ⟨k, hk, rfl, hno, hbr⟩ := hrel
    have HN := hide hno
    clear hno
    by_cases hkl : k < ls.length
    · obtain ⟨ao, cap, hcell⟩ := hc k hkl
      have hlk := hl k
      have hcell' := (hbr.cell (p := ⟨g, k * 2 + 1, none⟩) hg).trans hcell
      clear hc hl hcell
      generalize hL : ls.getD k 0 = L at *
      have HL := hide hL
      clear hL
      go_wp2_with fail
      with_reducible refine (beyond_one hlk).mono ?_
      rintro e w2 ⟨rfl, rfl⟩
      have hb2 := below_trans hbr (bel_alloc wr (.cells #[.slice ao L cap] 23))
      by_cases hq : 1048576 < 1 + L
      · rw [decide_eq_true hq]
        go_wp2
        go_ret
        refine ⟨?_, hb2⟩
        rw [decide_eq_true]
        · rfl
        · exact ⟨k, hkl, by rw [HL.out]; exact hq⟩
      · rw [decide_eq_false hq]
        go_wp2
        go_roundw
        case rel => exact ⟨k + 1, by omega, by go_num, fun j hj => by
            by_cases e : j = k
            · subst e; rw [HL.out]; exact hq
            · exact HN.out j (by omega), hb2⟩
        case measure => simp [intOf]; omega
    · have hke : k = ls.length := by omega
      subst hke
      go_wp2
      go_ret
      refine ⟨?_, hbr⟩
      rw [decide_eq_false]
      · rfl
      · rintro ⟨i, hi, h2⟩
        exact HN.out i hi h2

end Go.Proofs.YtgaldbfgmbaebaaDoor

namespace Go.Proofs.YtgaldbfgmbaebaaDoor
open Go.RowKit

set_option maxRecDepth 20000 in
set_option maxHeartbeats 2000000 in
theorem show_d3 {w : World} {v : Value} {k : Nat} (h : WArg w v (-3) k) (hk : k ≤ 1099511627776) :
    Calls Tryd.prog 21 #[v] w fun e w' => e = .returned (.string ⟨#[45, 51]⟩) ∧ Below w.heap.size w w' := by
  obtain ⟨neg, m, a, rfl, ha, hn⟩ := h
  have A1 := ha
  have N1 := ha.nonneg
  obtain ⟨zs, ⟨ao, cap, rfl, -⟩, -⟩ := ha
  have hna : neg = true ∧ a = 3 := by unfold wn at hn; cases neg <;> simp at hn <;> constructor <;> first | rfl | omega
  obtain ⟨rfl, rfl⟩ := hna
  have K1 : Below w.heap.size w (w.alloc (.cells #[.bool true, .slice ao zs.length cap] 38)) := bel_alloc _ _
  have C1 := cell2_new w (.bool true) (.slice ao zs.length cap) 38
  have HC := hide C1
  have HN := hide hn
  clear C1 hn
  replace A1 := A1.below K1
  have hsg : sgn (-3) 0 = -1 := by decide
  have hap : (⟨#[45]⟩ : ByteArray) ++ ⟨#[51]⟩ = ⟨#[45, 51]⟩ := rfl
  go_enter Tryd.func21, Tryd.ntmps21
  go_wp2_with fail
  with_reducible refine (sign_any A1 HN.out hk).mono ?_
  rintro e w2 ⟨rfl, hb2⟩
  have p1 := (HC.out.below hb2).c1
  go_wp2_with fail
  with_reducible refine (digits_d3 (A1.below hb2) hk).mono ?_
  rintro e w3 ⟨rfl, hb3⟩
  go_wp2
  go_ret
  exact ⟨rfl, K1.trans ((below_trans hb2 hb3).mono K1.size)⟩

set_option maxRecDepth 20000 in
set_option maxHeartbeats 2000000 in
theorem show_d1 {w : World} {v : Value} {k : Nat} (h : WArg w v (-1) k) (hk : k ≤ 1099511627776) :
    Calls Tryd.prog 21 #[v] w fun e w' => e = .returned (.string ⟨#[45, 49]⟩) ∧ Below w.heap.size w w' := by
  obtain ⟨neg, m, a, rfl, ha, hn⟩ := h
  have A1 := ha
  have N1 := ha.nonneg
  obtain ⟨zs, ⟨ao, cap, rfl, -⟩, -⟩ := ha
  have hna : neg = true ∧ a = 1 := by unfold wn at hn; cases neg <;> simp at hn <;> constructor <;> first | rfl | omega
  obtain ⟨rfl, rfl⟩ := hna
  have K1 : Below w.heap.size w (w.alloc (.cells #[.bool true, .slice ao zs.length cap] 38)) := bel_alloc _ _
  have C1 := cell2_new w (.bool true) (.slice ao zs.length cap) 38
  have HC := hide C1
  have HN := hide hn
  clear C1 hn
  replace A1 := A1.below K1
  have hsg : sgn (-1) 0 = -1 := by decide
  have hap : (⟨#[45]⟩ : ByteArray) ++ ⟨#[49]⟩ = ⟨#[45, 49]⟩ := rfl
  go_enter Tryd.func21, Tryd.ntmps21
  go_wp2_with fail
  with_reducible refine (sign_any A1 HN.out hk).mono ?_
  rintro e w2 ⟨rfl, hb2⟩
  have p1 := (HC.out.below hb2).c1
  go_wp2_with fail
  with_reducible refine (digits_d1 (A1.below hb2) hk).mono ?_
  rintro e w3 ⟨rfl, hb3⟩
  go_wp2
  go_ret
  exact ⟨rfl, K1.trans ((below_trans hb2 hb3).mono K1.size)⟩

set_option maxRecDepth 20000 in
set_option maxHeartbeats 2000000 in
theorem cutPrefix_5 {w : World} :
    Calls Tryd.prog 60 #[.string ⟨#[45, 53]⟩, .string ⟨#[45]⟩] w fun e w' => e = .returned (.tuple #[.string ⟨#[53]⟩, .bool true]) ∧ w' = w := by
  have x1 : ({ data := #[45, 53] } : ByteArray).extract 0 1 = { data := #[45] } := rfl
  have x2 : ({ data := #[45, 53] } : ByteArray).extract 1 2 = { data := #[53] } := rfl
  have x3 : (({ data := #[45] } : ByteArray) == { data := #[45] }) = true := by decide
  go_enter Tryd.func60, Tryd.ntmps60
  go_wp2
  go_ret2
  exact ⟨rfl, rfl⟩

set_option maxRecDepth 20000 in
set_option maxHeartbeats 4000000 in
theorem wread_5 {w : World} :
    Calls Tryd.prog 19 #[.string ⟨#[45, 53]⟩] w fun e w' => ∃ v, e = .returned (.tuple #[v, .bool true]) ∧ WNum w.heap.size w' v (-5) 2 ∧ Below w.heap.size w w' := by
  have K1 := bel_alloc w (.cells #[.bool false, .slice none 0 0] 38)
  have D1 := cell2_new w (.bool false) (.slice none 0 0) 38
  have HD := hide D1
  clear D1
  have lt1 := HD.out.lt
  go_enter Tryd.func19, Tryd.ntmps19
  go_wp2_with fail
  with_reducible refine cutPrefix_5.mono ?_
  rintro e w2 ⟨rfl, rfl⟩
  go_wp2_with fail
  with_reducible refine read_5.mono ?_
  rintro e w2 ⟨vn, rfl, hN, hb2⟩
  have hN' := hN
  obtain ⟨zs, ⟨ao, rfl, _, _⟩, hc, hv, _⟩ := hN
  have hz : ¬ (zs.length : Int) = 0 := by
    intro e
    have : zs = [] := List.eq_nil_of_length_eq_zero (by omega)
    rw [this] at hv
    exact absurd hv (by decide)
  have hz2 : ((zs.length : Int) == 0) = false := by simpa using hz
  clear hz hc hv
  go_wp2_with fail
  with_reducible refine (number_any hN' (by omega)).mono ?_
  rintro e w3 ⟨vr, rfl, hR, hb3⟩
  rw [if_pos rfl] at hR
  have K := below_trans hb2 hb3
  clear hb2 hb3 hN'
  obtain ⟨ng, ro, rl, rfl⟩ := hR.told
  have d0 := (HD.out.below K).c0
  have d1 := (HD.out.below K).c1
  have g0 := (HD.out.below K).f0
  have g1 := (HD.out.below K).f1
  go_wp2
  have PD := (HD.out.below K).put (.bool ng) (.slice ro rl rl)
  have KB := below_put2 (b := w.heap.size) (K1.trans (K.mono (by have := K1.size; omega))) (by omega) (.bool ng) (.slice ro rl rl)
  have WN := ((hR.put lt1 0 (.bool ng)).put lt1 1 (.slice ro rl rl)).low (B' := w.heap.size) (by omega)
  clear d0 d1 g0 g1 hR K K1 HD
  generalize (w3.setCell ⟨w.heap.size, 0, none⟩ (.bool ng)).setCell ⟨w.heap.size, 1, none⟩ (.slice ro rl rl) = w9 at *
  (try simp only [Exit.inBlock, Exit.then])
  exact bodyPost_ret (v := .tuple #[.agg #[.bool ng, .slice ro rl rl], .bool true]) (by simp [results, Tryd.results19, go_sem, PD.c0, PD.c1]) rfl ⟨_, rfl, WN, KB⟩

end Go.Proofs.YtgaldbfgmbaebaaDoor

namespace Go.Proofs.YtgaldbfgmbaebaaDoor
open Go.RowKit

theorem tstr_c {s : ByteArray} (h : TStr 2 (-1) s) : s = ⟨#[255, 255]⟩ :=
  tstr_one h ⟨[255, 255], by intro i; match i with | 0 => decide | 1 => decide | i + 2 => rw [Nt.lb_out (by simp)]; decide, rfl, rfl, by decide⟩
theorem fits_c : Fits 2 (-1) := by unfold Fits; decide

theorem wnum_five {B : Nat} {w : World} {ng : Bool} {ro : Option Addr} {rl k : Nat} (h : WNum B w (.agg #[.bool ng, .slice ro rl rl]) (-5) k) : ng = true ∧ rl = 1 := by
  obtain ⟨neg, m, a, e, hN, hn, _⟩ := h
  have hna : neg = true ∧ a = 5 := by
    have := hN.arg.nonneg
    unfold wn at hn; cases neg <;> simp at hn <;> constructor <;> first | rfl | omega
  obtain ⟨rfl, rfl⟩ := hna
  simp at e
  obtain ⟨rfl, rfl⟩ := e
  obtain ⟨ao, h1, _⟩ := hN.made (ys := [5]) (canon_one (by omega)) (val_one 5)
  simp at h1
  exact ⟨rfl, h1.2⟩

set_option maxRecDepth 20000 in
set_option maxHeartbeats 8000000 in
theorem wlives_any {w : World} :
    Calls Tryd.prog 25 #[] w fun e w' => e = .returned (.bool true) ∧ Below w.heap.size w w' := by
  go_enter Tryd.func25, Tryd.ntmps25
  go_wp2_with fail
  with_reducible refine (wfrom_any (n := -7) (by omega) (by omega)).mono ?_
  rintro e w1 ⟨va, rfl, ha, hb1⟩
  go_wp2_with fail
  with_reducible refine (wfrom_any (n := 2) (by omega) (by omega)).mono ?_
  rintro e w2 ⟨vb, rfl, hb, hb2⟩
  go_wp2_with fail
  with_reducible refine (wquo_any (ha.arg.below hb2) (by omega) hb.arg (by omega) (by omega)).mono ?_
  rintro e w3 ⟨vq, vr, rfl, hq, hr, hb3⟩
  have KB := below_trans (below_trans hb1 hb2) hb3
  have e1 : Int.tdiv (-7) 2 = -3 := by decide
  have e2 : Int.tmod (-7) 2 = -1 := by decide
  rw [e1] at hq
  rw [e2] at hr
  clear hb1 hb2 hb3 ha hb e1 e2
  obtain ⟨ng1, ro1, rl1, rfl⟩ := hq.told
  obtain ⟨ng2, ro2, rl2, rfl⟩ := hr.told
  go_wp2_with fail
  have z3 : (w3.alloc (.cells #[.bool ng1, .slice ro1 rl1 rl1] 38)).heap.size = w3.heap.size + 1 := by simp
  have C1 := (cell2_new w3 (.bool ng1) (.slice ro1 rl1 rl1) 38).alloc (.cells #[.bool ng2, .slice ro2 rl2 rl2] 38)
  have C2 := cell2_new (w3.alloc (.cells #[.bool ng1, .slice ro1 rl1 rl1] 38)) (.bool ng2) (.slice ro2 rl2 rl2) 38
  rw [z3] at C2
  have K4 := below_trans (bel_alloc w3 (.cells #[.bool ng1, .slice ro1 rl1 rl1] 38)) (bel_alloc _ (.cells #[.bool ng2, .slice ro2 rl2 rl2] 38))
  clear z3
  replace KB := below_trans KB K4
  replace hq := hq.below K4
  replace hr := hr.below K4
  clear K4
  have z4 : w3.heap.size + 1 < ((w3.alloc (.cells #[.bool ng1, .slice ro1 rl1 rl1] 38)).alloc (.cells #[.bool ng2, .slice ro2 rl2 rl2] 38)).heap.size := by simp
  obtain ⟨b1, hb1⟩ : ∃ b1, b1 = w3.heap.size := ⟨_, rfl⟩
  rw [← hb1] at C1 C2 z4 ⊢
  clear hb1
  generalize (w3.alloc (.cells #[.bool ng1, .slice ro1 rl1 rl1] 38)).alloc (.cells #[.bool ng2, .slice ro2 rl2 rl2] 38) = w4 at *
  with_reducible refine (wfrom_any (n := -1) (by omega) (by omega)).mono ?_
  rintro e w5 ⟨vc, rfl, hc, hb5⟩
  go_wp2_with fail
  have c6 := twos_any (N := 2) hc.arg (by omega) (by omega) (by omega)
  rw [show ((2 : Nat) : Int) = 2 from rfl] at c6
  with_reducible refine c6.mono ?_
  clear c6
  rintro e w6 ⟨⟨s, b, rfl, hsb⟩, hb6⟩
  obtain ⟨rfl, -, hts⟩ : b = true ∧ Fits 2 (-1) ∧ TStr 2 (-1) s := by
    rcases hsb with h | ⟨_, h, _⟩
    · exact h
    · exact absurd fits_c h
  obtain rfl := tstr_c hts
  go_wp2_with fail
  with_reducible refine wread_5.mono ?_
  rintro e w7 ⟨vx, rfl, hx, hb7⟩
  have K7 := below_trans (below_trans hb5 hb6) hb7
  replace KB := below_trans KB K7
  replace hq := hq.below K7
  replace hr := hr.below K7
  replace C1 := C1.below K7
  replace C2 := C2.below K7
  clear K7 hb5 hb6 hb7 hc hts hsb z4
  obtain ⟨ng3, ro3, rl3, rfl⟩ := hx.told
  have hng := wnum_five hx
  obtain ⟨rfl, rfl⟩ := hng
  go_upto_region 4 with fail
  have C3 := cell2_new w7 (.bool true) (.slice ro3 1 1) 38
  have K8 := bel_alloc w7 (.cells #[.bool true, .slice ro3 1 1] 38)
  replace KB := below_trans KB K8
  replace hq := hq.below K8
  replace hr := hr.below K8
  replace hx := hx.below K8
  replace C1 := C1.below K8
  replace C2 := C2.below K8
  clear K8
  obtain ⟨b3, hb3⟩ : ∃ b3, b3 = w7.heap.size := ⟨_, rfl⟩
  rw [← hb3] at C3 ⊢
  clear hb3
  generalize w7.alloc (.cells #[.bool true, .slice ro3 1 1] 38) = w8 at *
  have HC1 := hide C1
  have HC2 := hide C2
  have HC3 := hide C3
  have p1 := C1.c0
  have q1 := C1.c1
  have p2 := C2.c0
  have q2 := C2.c1
  have p3 := C3.c0
  have q3 := C3.c1
  clear C1 C2 C3
  have K : Below w8.heap.size w8 w8.drew := (Below.refl _ _).drew
  have s5 : sgn (-5) (-5) = 0 := by decide
  have t1 : (({ data := #[45, 51] } : ByteArray) == { data := #[45, 51] }) = true := by decide
  have t2 : (({ data := #[45, 49] } : ByteArray) == { data := #[45, 49] }) = true := by decide
  have t3 : (({ data := #[255, 255] } : ByteArray) == { data := #[255, 255] }) = true := by decide
  go_region_held3 (fun w' => w'.cell? ⟨b1, 0, none⟩ = some (.bool ng1) ∧ w'.cell? ⟨b1, 1, none⟩ = some (.slice ro1 rl1 rl1) ∧ w'.cell? ⟨b1 + 1, 0, none⟩ = some (.bool ng2) ∧ w'.cell? ⟨b1 + 1, 1, none⟩ = some (.slice ro2 rl2 rl2) ∧ w'.cell? ⟨b3, 0, none⟩ = some (.bool true) ∧ w'.cell? ⟨b3, 1, none⟩ = some (.slice ro3 1 1))
    (first
      | with_reducible exact ⟨(HC1.out.below K).c0, (HC1.out.below K).c1, (HC2.out.below K).c0, (HC2.out.below K).c1, (HC3.out.below K).c0, (HC3.out.below K).c1⟩
      | go_keep)
    (first
      | (go_at_call 21; first | (with_reducible refine (show_d3 (hq.arg.below K) (by omega)).mono ?_; rintro e w9 ⟨rfl, hb⟩; replace K := below_trans K hb; clear hb) | (with_reducible refine (show_d1 (hr.arg.below K) (by omega)).mono ?_; rintro e w9 ⟨rfl, hb⟩; replace K := below_trans K hb; clear hb))
      | (go_at_call 28; with_reducible refine (wfrom_any (n := -5) (by omega) (by omega)).mono ?_; rintro e w9 ⟨v5, rfl, h5, hb⟩; replace K := below_trans K hb; clear hb)
      | (go_at_call 27; with_reducible refine (wcmp_any (hx.arg.below K) h5.arg (by omega) (by omega)).mono ?_; rintro e w9 ⟨rfl, hb⟩; replace K := below_trans K hb; clear hb))
  all_goals go_wp2
  all_goals go_ret
  all_goals exact ⟨rfl, below_trans KB K⟩

end Go.Proofs.YtgaldbfgmbaebaaDoor
