import Derived.Test.YticmlelalbaalaaGreatDoorB52
import Derived.Test.YticmlelalbaalaaGreatDoorB34
import Derived.Test.YticmlelalbaalaaGreatDoorB28
import Derived.Test.YticmlelalbaalaaGreatDoorB30
import Derived.Test.YticmlelalbaalaaGreatDoorB49
import Derived.Laws.BytesArg
import Derived.Lib.AppendStr
namespace Go.Proofs.YticmlelalbaalaaGreatDoor
open Go.RowKit Go.Shelf
set_option linter.unusedVariables false
set_option linter.unusedSimpArgs false
theorem dec_dstr (u : Nat) : Dstr (u : Int) ((Lib.decDigits u).map fun c => (c.toNat : Int)) := by
  fun_induction Lib.decDigits u with
  | case1 u h =>
    have e : ((UInt8.ofNat (48 + u)).toNat : Int) = 48 + u := by
      rw [UInt8.toNat_ofNat']
      omega
    simp only [List.map_cons, List.map_nil, e]
    refine ⟨fun x hx => by rw [List.mem_singleton.1 hx]; omega, by simp, ?_, by rw [dgv_one]; omega⟩
    by_cases h0 : u = 0
    · subst h0; exact .inr rfl
    · exact .inl (by simp [Nt.lb]; omega)
  | case2 u h ih =>
    have e : ((UInt8.ofNat (48 + u % 10)).toNat : Int) = 48 + (u % 10 : Nat) := by
      rw [UInt8.toNat_ofNat']
      omega
    rw [List.map_append, List.map_cons, List.map_nil, e]
    obtain ⟨i1, i2, i3, i4⟩ := ih
    refine ⟨i1.append (fun x hx => by rw [List.mem_singleton.1 hx]; omega), by simp, .inl ?_, by rw [dgv_snoc, i4]; omega⟩
    rcases i3 with i3 | i3
    · cases hL : ((Lib.decDigits (u / 10)).map fun c => (c.toNat : Int)) with
      | nil => rw [hL] at i2; simp at i2
      | cons a t =>
        rw [hL] at i3
        simpa [Nt.lb] using i3
    · exfalso
      rw [i3, dgv_one] at i4
      omega
theorem ito_dstr {z : Int} (h : 0 ≤ z) : Dstr z (itoL z) := by
  unfold itoL Lib.itoa
  rw [if_neg (by omega)]
  have := dec_dstr z.toNat
  rwa [Int.toNat_of_nonneg h] at this
theorem sc_nums {ds : List Int} (h : Byt ds) : Lib.strCells (strOfNums ds) = ds.map (Value.int .u8) := by
  show (ds.map fun x => UInt8.ofNat x.toNat).map (fun b => Value.int .u8 (b.toNat : Int)) = _
  rw [List.map_map]
  refine List.map_congr_left fun x hx => ?_
  have := h x hx
  show Value.int .u8 ((UInt8.ofNat x.toNat).toNat : Int) = _
  congr 1
  rw [UInt8.toNat_ofNat']
  omega
theorem itoL_byt (z : Int) : Byt (itoL z) := fun x hx => by
  unfold itoL at hx
  obtain ⟨c, _, rfl⟩ := List.mem_map.1 hx
  have := c.toNat_lt
  omega
theorem pathT_byt (p : List Int) : Byt (pathT p) := fun x hx => by
  unfold pathT at hx
  obtain ⟨z, _, hx⟩ := List.mem_flatMap.1 hx
  rcases List.mem_cons.1 hx with rfl | hx
  · omega
  · exact itoL_byt z x hx
set_option maxHeartbeats 4000000 in
set_option maxRecDepth 100000 in
theorem rstep_any {w : World} {z : Int} (h0 : 0 ≤ z) (h1 : z < 9223372036854775807) : Calls Tryz.prog 84 #[.int .i64 z] w fun e w' => e = .returned (.string (strOfNums (47 :: itoL z))) ∧ Below w.heap.size w w' := by
  have hw : IntKind.u64.wrap z = z := by simp [IntKind.wrap, IntKind.bits, IntKind.signed]; omega
  have H0 := hide (And.intro h0 h1)
  clear h0 h1
  go_enter Tryz.func84, Tryz.ntmps84
  go_wp2_with fail
  refine (rfrom_any z H0.out.1 (by have := H0.out.2; omega)).mono ?_
  rintro e w1 ⟨v, rfl, hn, hb⟩
  have HB1 := hide hb
  have HN := hide hn
  clear hb hn
  go_wp2_with fail
  refine (rdigits_any (V := z) (kk := 2) HN.out.arg (by omega)).mono ?_
  rintro e w2 ⟨ds, rfl, hd, hb⟩
  have hds : ds = itoL z := hd.unique (ito_dstr H0.out.1)
  subst hds
  have HB2 := hide (below_trans HB1.out hb)
  have hl := itoL_len z H0.out.1 H0.out.2
  have hsz : (strOfNums (itoL z)).size ≤ 20 := by rw [strOfNums_size]; exact hl
  have HJ := hide (show (⟨#[47]⟩ : ByteArray) ++ strOfNums (itoL z) = strOfNums (47 :: itoL z) from utxt_join [47] (itoL z))
  clear hd hb hl HN HB1
  generalize strOfNums (itoL z) = s at *
  have h2 : ¬ (9223372036854775807 : Int) < 1 + (s.size : Int) := by omega
  have h3 : ¬ 9223372036854775807 < 1 + s.size := by omega
  go_wp2
  go_ret
  exact ⟨by first | rfl | exact congrArg (fun s => Ending.returned (Value.string s)) HJ.out, HB2.out⟩
theorem reads_conv {w : World} {v : Value} {zs : List Int} (h : Reads .u8 w v zs) : (convert 98 9 v).run Tryz.prog w = .ok (.string (strOfNums zs)) w := by
  obtain ⟨ao, cap, rfl, h1, h2, h3⟩ := h
  by_cases h0 : 0 < zs.length
  · obtain ⟨b, off, rfl, hb, hc⟩ := h3 h0
    exact run_convert_bytes_arg w 98 5 Tryz.underlying98 Tryz.underlying5 b off zs.length cap zs rfl hc 9 Tryz.underlying9
  · have e : zs = [] := List.eq_nil_of_length_eq_zero (by omega)
    subst e
    cases ao with
    | none => exact run_convert_bytes_nil w 98 5 Tryz.underlying98 Tryz.underlying5 0 cap 9 Tryz.underlying9
    | some ad =>
      show (convert 98 9 (.slice (some ad) 0 cap)).run Tryz.prog w = _
      rw [run_convert_bytes_string w 98 9 5 _ _ cap Tryz.underlying98 Tryz.underlying5 Tryz.underlying9, run_bytesToString w ad 0 cap [] (run_loadCells_list (P := Tryz.prog) w ad [] (fun j v hj => by simp at hj))]
      rfl
set_option maxHeartbeats 8000000 in
set_option maxRecDepth 100000 in
theorem rpath_any {w : World} {v : Value} {p : List Int} (hr : Reads .i64 w v p) (hp : ∀ z ∈ p, 0 ≤ z ∧ z < 9223372036854775807) (hl : p.length ≤ 1048577) :
    Calls Tryz.prog 42 #[v] w fun e w' => e = .returned (.string (strOfNums (pathT p))) ∧ Below w.heap.size w w' := by
  obtain ⟨ao, cap, rfl, h1, h2, hc⟩ := hr
  obtain ⟨i0, hi, hz0, hz1, hz2⟩ := info_parts binf
  have HC := hide hc
  have HZ := hide hp
  obtain ⟨n, hn⟩ : ∃ n, p.length = n := ⟨_, rfl⟩
  have HN := hide hn
  rw [hn] at h1 hl ⊢
  clear hc hp hn
  go_enter Tryz.func42, Tryz.ntmps42
  go_wp2
  go_loopw [3, 4] (fun o i wr => ∃ j : Nat, i = .int .i64 (j : Int) ∧ j ≤ n ∧ Hid (wr.ownsRow w.heap.size 5 1 o (pathT (p.take j)).length ((pathT (p.take j)).map (Value.int .u8))) ∧ Hid (Below w.heap.size w wr)) (fun _ i _ => n - (intOf i).toNat)
  case atStart => exact ⟨0, rfl, by omega, hide (by simpa [pathT] using World.ownsRow_nil w w.heap.size 5 1), hide (Below.refl _ _)⟩
  case round =>
    obtain ⟨j, rfl, hj, HO, HW⟩ := hrel
    have hplen := pathT_len (p.take j) (fun z hz => HZ.out z (List.mem_of_mem_take hz))
    have hpl2 : (pathT (p.take j)).length ≤ 30000000 := by
      have : (p.take j).length ≤ j := by simp; omega
      omega
    by_cases hjx : j < n
    · have q1 : (j : Int) < (n : Int) := by omega
      have q2 : (0 : Int) ≤ (j : Int) := by omega
      have q3 : IntKind.i64.wrap ((j : Int) + 1) = (j : Int) + 1 := by rw [IntKind.wrap_i64]; omega
      have hjp : j < p.length := by rw [HN.out]; exact hjx
      obtain ⟨b, off, rfl, hb, hcell⟩ := HC.out (by omega)
      have c0 := (HW.out.cell (p := ⟨b, off + j, none⟩) hb).trans (hcell j hjp)
      have hlb : Nt.lb p j = p[j] := by simp [Nt.lb, hjp]
      rw [hlb] at c0
      have HT := hide (show pathT (p.take (j + 1)) = pathT (p.take j) ++ (47 :: itoL p[j]) by
        rw [List.take_add_one, List.getElem?_eq_getElem hjp, pathT_app]
        simp [pathT_one])
      have hz := HZ.out p[j] (List.getElem_mem hjp)
      have hil := itoL_len p[j] hz.1 hz.2
      obtain ⟨z, hzz⟩ : ∃ z, p[j] = z := ⟨_, rfl⟩
      rw [hzz] at c0 HT hz hil
      obtain ⟨ps, hps⟩ : ∃ ps, pathT (p.take j) = ps := ⟨_, rfl⟩
      rw [hps] at HO HT hpl2
      have HL2 := hide hpl2
      have HZZ := hide hz
      have HI := hide hil
      clear hlb hzz hps hplen hcell hpl2 hz hil
      go_wp2_with fail
      refine (rstep_any HZZ.out.1 HZZ.out.2).mono ?_
      rintro e w2 ⟨rfl, hb2⟩
      have HB2 := hide (HW.out.trans (hb2.mono HW.out.size))
      have HO2 := hide (own_far HO.out hb2)
      have HSC := hide (show Lib.strCells (strOfNums (47 :: itoL z)) = (47 :: itoL z).map (Value.int .u8) from sc_nums (fun x hx => by
        rcases List.mem_cons.1 hx with rfl | hx
        · omega
        · exact itoL_byt z x hx))
      have HSZ := hide (show (strOfNums (47 :: itoL z)).size = (itoL z).length + 1 by rw [strOfNums_size, List.length_cons])
      have HBS := hide (HB2.out.size)
      clear hb2 c0
      generalize hst : strOfNums (47 :: itoL z) = st at *
      clear hst
      go_wp2_with (at_builtin; refine Lib.wpList_append_own_string _ rfl _ _ 98 9 rfl w.heap.size 5 i0 Tryz.underlying98 Tryz.underlying9 hi hz0 hz1 hz2 _ _ _ rfl HO2.out st rfl (by have := HL2.out; have := HI.out; rw [HSZ.out]; unfold maxLen; omega) (by have := HL2.out; have := HI.out; rw [HSZ.out]; omega) HBS.out ?_; intro v' w3 hown' hgrow _; have HO3 := hide hown'; have HB3 := hide (HB2.out.grown hgrow HBS.out (fun k hk => (own_in HO2.out hk).1)); clear hown' hgrow)
      go_roundw
      case rel => exact ⟨j + 1, by simp, by omega, hide (by have h := HO3.out; rw [HSC.out, HSZ.out] at h; rw [HT.out, List.map_append, List.length_append, List.length_cons]; exact h), HB3⟩
      case measure => simp [intOf]; omega
    · have q1 : ¬ (j : Int) < (n : Int) := by omega
      have e : p.take j = p := List.take_of_length_le (by rw [HN.out]; omega)
      rw [e] at HO
      have hcv := reads_conv (own_rdi rfl HO.out)
      go_wp2
      go_ret
      exact ⟨rfl, HW.out⟩
end Go.Proofs.YticmlelalbaalaaGreatDoor
