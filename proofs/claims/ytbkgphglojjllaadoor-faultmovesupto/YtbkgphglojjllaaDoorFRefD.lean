/- ref13: Of -/
import Derived.Test.YtbkgphglojjllaaDoorFRefC
import Derived.BigQuiet
namespace Go.Proofs.YtbkgphglojjllaaDoor
open Go.RowKit
set_option linter.unusedVariables false

/-- the place that a tree tells -/
def qO (y : Nd) : Option (Int × ByteArray) := if y.kind = 6 then none else some (y.place, y.path)
def ndO (x : Nd) : Option (Int × ByteArray) := match ndF x with
  | none => none
  | some y => qO y
theorem below_drewM {B : Nat} {w w' : World} (h : Below B w w') (n : Nat) : Below B w (w'.drewN n) := ⟨h.os, h.tape, h.output, h.size, h.block⟩
set_option maxHeartbeats 4000000 in
set_option maxRecDepth 100000 in
theorem rOf_any {w : World} {x : Nd} {v : Value} (h : NdSl w v x.kids) :
    Calls Tryd.prog 11 #[ndV x v] w fun e w' => e = .returned (.tuple #[.int .i64 (oA (ndO x)), .string (oS (ndO x)), .bool (oB (ndO x))]) ∧ Below w.heap.size w w' := by
  have HC := hide (fun (w1 : World) (hb : Below w.heap.size w w1) => rfound_all _ x (Nat.le_refl _) w1 v (h.far hb))
  have ho : ndO x = match ndF x with | none => none | some y => qO y := rfl
  rw [ho]
  clear ho
  generalize ndF x = o at *
  obtain ⟨k, c, a, p, ks⟩ := x
  obtain ⟨ao, cap, rfl, hcap, hmax⟩ := h.len
  clear h hcap hmax
  show Calls Tryd.prog 11 #[.agg #[.int .i64 k, .int .i64 c, .int .i64 a, .string p, .slice ao ks.length cap]] w _
  unfold ndV at HC
  simp only [Nd.kind, Nd.code, Nd.place, Nd.path, Nd.kids] at HC
  have K0 := hide ((Below.refl w.heap.size w).alloc (Nat.le_refl _) (.cells #[.int .i64 k, .int .i64 c, .int .i64 a, .string p, .slice ao ks.length cap] 24))
  cases o with
  | none =>
    simp only [oA, oS, oB, Option.isSome_none]
    go_enter Tryd.func11, Tryd.ntmps11
    go_wp2_with fail
    refine (HC.out _ K0.out).mono ?_
    rintro e w1 ⟨⟨vy, rfl, ay, ny, cy, rfl⟩, hb1⟩
    have K1 := hide (K0.out.trans (hb1.mono K0.out.size))
    have K2 := hide (K1.out.alloc K1.out.size (.cells #[.int .i64 0, .int .i64 0, .int .i64 0, .string ⟨#[]⟩, .slice none 0 0] 24))
    clear hb1 HC
    simp only [fnV]
    go_wp2
    (try simp only [Exit.inBlock, Exit.then])
    refine bodyPost_ret (v := .tuple #[.int .i64 0, .string ⟨#[]⟩, .bool false]) (by simp [results, Tryd.results11]) rfl ⟨rfl, K2.out⟩
  | some y =>
    obtain ⟨yk, yc, ya, yp, ys⟩ := y
    by_cases h6 : yk = 6
    · subst h6
      simp only [show qO (.mk 6 yc ya yp ys) = none from if_pos rfl]
      simp only [oA, oS, oB, Option.isSome_none]
      go_enter Tryd.func11, Tryd.ntmps11
      go_wp2_with fail
      refine (HC.out _ K0.out).mono ?_
      rintro e w1 ⟨⟨vy, rfl, ay, ny, cy, rfl⟩, hb1⟩
      have K1 := hide (K0.out.trans (hb1.mono K0.out.size))
      have K2 := hide (K1.out.alloc K1.out.size (.cells #[.int .i64 6, .int .i64 yc, .int .i64 ya, .string yp, .slice ay ny cy] 24))
      clear hb1 HC
      simp only [fnV, ndV, Nd.kind, Nd.code, Nd.place, Nd.path]
      go_wp2
      (try simp only [Exit.inBlock, Exit.then])
      refine bodyPost_ret (v := .tuple #[.int .i64 0, .string ⟨#[]⟩, .bool false]) (by simp [results, Tryd.results11]) rfl ⟨rfl, K2.out⟩
    · simp only [show qO (.mk yk yc ya yp ys) = some (ya, yp) from if_neg h6]
      have h6' : (yk == 6) = false := beq_eq_false_iff_ne.2 h6
      simp only [oA, oS, oB, Option.isSome_some]
      go_enter Tryd.func11, Tryd.ntmps11
      go_wp2_with fail
      refine (HC.out _ K0.out).mono ?_
      rintro e w1 ⟨⟨vy, rfl, ay, ny, cy, rfl⟩, hb1⟩
      have K1 := hide (K0.out.trans (hb1.mono K0.out.size))
      have K2 := hide (K1.out.alloc K1.out.size (.cells #[.int .i64 yk, .int .i64 yc, .int .i64 ya, .string yp, .slice ay ny cy] 24))
      obtain ⟨e0, e1, e2, e3, e4⟩ := box_node (w := w1) (k := yk) (c := yc) (a := ya) (p := yp) (v := .slice ay ny cy) _ (Below.refl _ _)
      clear hb1 HC
      simp only [fnV, ndV, Nd.kind, Nd.code, Nd.place, Nd.path]
      go_wp2
      generalize w1.alloc (.cells #[.int .i64 yk, .int .i64 yc, .int .i64 ya, .string yp, .slice ay ny cy] 24) = W at *
      go_quiet (fail)
      have K3 := hide (below_drewM K2.out nq)
      go_wp2
      (try simp only [Exit.inBlock, Exit.then])
      refine bodyPost_ret (v := .tuple #[.int .i64 ya, .string yp, .bool true]) (by simp [results, Tryd.results11]) rfl ⟨rfl, K3.out⟩

end Go.Proofs.YtbkgphglojjllaaDoor
