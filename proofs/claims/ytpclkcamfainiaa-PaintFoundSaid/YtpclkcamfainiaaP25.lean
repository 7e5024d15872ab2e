/- The law: what is returned has no patterns. -/
import Derived.Test.YtpclkcamfainiaaP31
set_option linter.unusedSimpArgs false
set_option linter.unusedVariables false
set_option maxHeartbeats 4000000
set_option maxRecDepth 20000
namespace Go.Pt
open Go Go.Abs Go.Proofs.Ytpclkcamfainiaa
theorem if5 {α : Type} {o : Option α} (h : o = none) : (if o.isSome = true then (0 : Int) else 5) = 5 := by subst h; rfl
theorem if0 {α : Type} {o : Option α} {x : α} (h : o = some x) : (if o.isSome = true then (0 : Int) else 5) = 0 := by subst h; rfl
theorem avd_none {n k l : Nat} (ok : avdOK n k l) (h : (avA n k l).head? = none) : avdE n k l = 5 ∧ avdO n k l = none := ⟨by rw [avdE, if_pos ok]; exact if5 h, by rw [avdO, if_pos ok]; exact h⟩
theorem avd_some {n k l : Nat} {zs : List Int} (ok : avdOK n k l) (h : (avA n k l).head? = some zs) : avdE n k l = 0 ∧ avdO n k l = some zs := ⟨by rw [avdE, if_pos ok]; exact if0 h, by rw [avdO, if_pos ok]; exact h⟩
theorem sml_none {n r : Nat} (ok : smlOK n r) (h : (allC lsF r n []).head? = none) : smlE n r = 5 ∧ smlO n r = none := ⟨by rw [smlE, if_pos ok]; exact if5 h, by rw [smlO, if_pos ok]; exact h⟩
theorem sml_some {n r : Nat} {zs : List Int} (ok : smlOK n r) (h : (allC lsF r n []).head? = some zs) : smlE n r = 0 ∧ smlO n r = some zs := ⟨by rw [smlE, if_pos ok]; exact if0 h, by rw [smlO, if_pos ok]; exact h⟩
theorem stl_none {n r k : Nat} (ok : stlOK n r k) (h : (allC (lpF k) r n []).head? = none) : stlE n r k = 5 ∧ stlO n r k = none := ⟨by rw [stlE, if_pos ok]; exact if5 h, by rw [stlO, if_pos ok]; exact h⟩
theorem stl_some {n r k : Nat} {zs : List Int} (ok : stlOK n r k) (h : (allC (lpF k) r n []).head? = some zs) : stlE n r k = 0 ∧ stlO n r k = some zs := ⟨by rw [stlE, if_pos ok]; exact if0 h, by rw [stlO, if_pos ok]; exact h⟩
theorem okc_of {r : Nat} {s : Int} {x : List Int} (h : ∀ z ∈ x, 0 ≤ z ∧ z < r) (hr : (r : Int) ≤ s) : okc s x = true := by
  simp only [okc, List.all_eq_true, decide_eq_true_eq]
  intro z hz
  have := h z hz
  omega
theorem tri_int {n : Nat} (h1 : 1 ≤ n) : ((tri n : Nat) : Int) = (n : Int) * ((n : Int) - 1) / 2 := by
  rw [show (n : Int) - 1 = ((n - 1 : Nat) : Int) by omega, tri]
  rfl
theorem cqF_of {n : Nat} {x : List Int} (h1 : 1 ≤ n) (hx : x.length = tri n) (hc : ∀ z ∈ x, 0 ≤ z ∧ z < 2) : cqF n x := ⟨by rw [hx]; exact tri_int h1, okc_of (r := 2) hc (by omega)⟩
theorem cqE_none {n s : Nat} {c : Int} {x : List Int} (hn : 1 ≤ n ∧ n ≤ 8) (hc : 0 ≤ c ∧ c ≤ 1) (hs : 1 ≤ s ∧ s ≤ 4) (hF : cqF n x) (H : ¬ GX (RC n x c) s n [] 0) : cqE n x c s = 5 := by
  rw [cqE, if_pos ⟨by omega, hc, by omega⟩, if_pos hF]
  exact if5 ((gr_none (by simp)).2 H)
theorem cqE_av {n k l : Nat} {x : List Int} (hn : 1 ≤ n ∧ n ≤ 8) (hk : 2 ≤ k ∧ k ≤ 4) (hl : 2 ≤ l ∧ l ≤ 4) (H : x ∈ avA n k l) : cqE n x 0 k = 5 ∧ cqE n x 1 l = 5 := by
  obtain ⟨h1, h2, h3, h4⟩ := (av_iff hn.2 hk.1 hl.1).1 H
  have hF := cqF_of hn.1 h1 h2
  exact ⟨cqE_none hn (by omega) (by omega) hF h3, cqE_none hn (by omega) (by omega) hF h4⟩
theorem sumE_of {r n : Nat} {x : List Int} (hn : 1 ≤ n ∧ n ≤ 14) (hr : r ≤ 3) (H : x ∈ allC lsF r n []) : (if sumOK x then (if ((sumO x).map pr2).isSome = true then (0 : Int) else 5) else 2) = 5 := by
  obtain ⟨h1, h2, h3⟩ := sm_iff.1 H
  have ok : sumOK x := ⟨by omega, okc_of h2 (by omega)⟩
  rw [if_pos ok]
  exact if5 (by rw [h3]; rfl)
theorem head_mem {l : List (List Int)} {x : List Int} (h : l.head? = some x) : x ∈ l := List.mem_of_mem_head? (by rw [h]; rfl)
theorem head_len' {F : List Int → Bool} {r f : Nat} {x : List Int} (h : x ∈ allC F r f []) : x.length = f := (all_iff.1 h).1
end Go.Pt
namespace Go.Proofs.Ytpclkcamfainiaa
open Go Go.Abs Go.Pt

theorem f9 (xa xb xc ya yb z : Int) (h : Hp) (hk : Hok h) (hxa : 0 ≤ xa ∧ xa ≤ 255) (hxb : 0 ≤ xb ∧ xb ≤ 255) (hxc : 0 ≤ xc ∧ xc ≤ 255) (hya : 0 ≤ ya ∧ ya ≤ 255) (hyb : 0 ≤ yb ∧ yb ≤ 255) (hz : 0 ≤ z ∧ z ≤ 255) :
    ∃ h', Evals Try.prog tab false (.func 9) [.ag [.int .u8 xa, .int .u8 xb, .int .u8 xc], .ag [.int .u8 ya, .int .u8 yb], .int .u8 z] h (.bool true, h') := by
  suffices H : ∃ v h', Evals Try.prog tab false (.func 9) [.ag [.int .u8 xa, .int .u8 xb, .int .u8 xc], .ag [.int .u8 ya, .int .u8 yb], .int .u8 z] h (v, h') ∧ v = .bool true by
    obtain ⟨v, h', e, rfl⟩ := H
    exact ⟨h', e⟩
  obtain ⟨n, n1, n2, bn⟩ := f35 xa 1 8 hxa (by omega) (by omega) (by omega)
  obtain ⟨k, k1, k2, bk⟩ := f35 xb 2 4 hxb (by omega) (by omega) (by omega)
  obtain ⟨l, l1, l2, bl⟩ := f35 xc 2 4 hxc (by omega) (by omega) (by omega)
  obtain ⟨sn, s1, s2, bsn⟩ := f35 ya 1 14 hya (by omega) (by omega) (by omega)
  obtain ⟨sr, s3, s4, bsr⟩ := f35 yb 1 3 hyb (by omega) (by omega) (by omega)
  obtain ⟨m, m1, m2, bm⟩ := f35 z 3 4 hz (by omega) (by omega) (by omega)
  obtain ⟨tn, t1, t2, btn⟩ := f35 ya 1 12 hya (by omega) (by omega) (by omega)
  obtain ⟨tr, t3, t4, btr⟩ := f35 yb 1 2 hyb (by omega) (by omega) (by omega)
  have gb : Grown h ((h.en.pu [.int .u8 xa, .int .u8 xb, .int .u8 xc]).pu [.int .u8 ya, .int .u8 yb]) := Grown.pu (Grown.pu Grown.en rfl) rfl
  have kb := gb.ok hk
  have by' : Box ((h.en.pu [.int .u8 xa, .int .u8 xb, .int .u8 xc]).pu [.int .u8 ya, .int .u8 yb]).blks (h.next + 1) [.int .u8 ya, .int .u8 yb] := Box.top
  have bx : Box ((h.en.pu [.int .u8 xa, .int .u8 xb, .int .u8 xc]).pu [.int .u8 ya, .int .u8 yb]).blks h.next [.int .u8 xa, .int .u8 xb, .int .u8 xc] := ⟨h.next, true, by rw [lkB_push (show h.next ≠ h.next + 1 by omega), lkB_top]⟩
  have ix3 := fun (hh : Hp) (id : Nat) => And.intro (sIxA_ptr (len := 3) (n := 1) (h := hh) (j := 0) (id := id) (off := 0) (by omega)) (And.intro (sIxA_ptr (len := 3) (n := 1) (h := hh) (j := 1) (id := id) (off := 0) (by omega)) (sIxA_ptr (len := 3) (n := 1) (h := hh) (j := 2) (id := id) (off := 0) (by omega)))
  have ix2 := fun (hh : Hp) (id : Nat) => And.intro (sIxA_ptr (len := 2) (n := 1) (h := hh) (j := 0) (id := id) (off := 0) (by omega)) (sIxA_ptr (len := 2) (n := 1) (h := hh) (j := 1) (id := id) (off := 0) (by omega))
  have lv := f19
  refine evals_func (Q := fun v _ => v = .bool true) c9 rfl ?_
  simp only [sf9, initS_cons, initS_nil]
  rw [wseq, wseq, wseq]
  refine wcut (fun ss => ∃ (hx : Hp) (u0 u1 u3 u6 u7 u8 u9 u10 u11 u13 u15 u16 u17 u19 u20 u21 u22 u24 u42 u62 u64 u76 u83 u85 u100 u108 u110 : AV), (Grown ((h.en.pu [.int .u8 xa, .int .u8 xb, .int .u8 xc]).pu [.int .u8 ya, .int .u8 yb]) hx) ∧ ss = { fr := [(0, u0), (1, u1), (2, .int .u8 z), (3, u3), (4, .ptr (h.next + 1) 0), (6, u6), (7, u7), (8, u8), (9, u9), (10, u10), (11, u11), (13, u13), (15, u15), (16, u16), (17, u17), (19, u19), (20, u20), (21, u21), (22, u22), (24, u24), (42, u42), (62, u62), (64, u64), (76, u76), (83, u83), (85, u85), (100, u100), (108, u108), (110, u110)], hp := hx }) ?_ ?_
  · have x0 := bx.ld (Sub.refl _) (j := 0)
    have x1 := bx.ld (Sub.refl _) (j := 1)
    have x2 := bx.ld (Sub.refl _) (j := 2)
    have en := bn _ kb
    have ek := bk _ kb
    have el := bl _ kb
    obtain ⟨v, h3, ev, g3, a, rfl, q3⟩ := f23 n k l _ kb
    have ok3 : avdOK n k l := ⟨by omega, by omega, by omega⟩
    
    have k3 := g3.ok kb
    cases hh : (avA n k l).head? with
    | none =>
      rw [(avd_none ok3 hh).1] at ev
      simp (disch := first | (simp only [Nat.reduceBEq, elem_hit, elem_miss, elem_nil]; done) | ((repeat' (first | assumption | exact Sub.refl _ | refine Sub.push ?_ ?_ | exact HokR.fresh (by assumption) | refine Fresh.push ?_ | refine HokR.push ?_ ?_ ?_ | exact Grown.refl | refine GrownR.push ?_ ?_ ?_ | exact refsOK_ints | exact refsOK_pairs | exact Nat.le_refl _ | (simp only [wM, Nat.reduceAdd, Nat.reduceLT, Nat.reduceLeDiff]; done))); done) | omega | decide) only [sBox_ag, ix3, x0, x1, x2, callT en, callT ek, callT el, callT ev, cutEx_n, wrap_i64, idx?_pos, Int.toNat_natCast, ↓wA, wB, resOf, Option.map_some, Option.map_none, List.map_cons, List.map_nil, List.nil_append, List.append_nil, List.cons_append, Nat.reduceBEq, List.getElem?_cons_zero, List.getElem?_cons_succ, List.getElem?_nil, Option.getD_some, Option.getD_none, cond_false, cond_true, and_true, true_and, Nat.zero_add, Nat.mul_one, Int.reduceBEq, Int.reduceBNe, Int.reduceLT, Int.reduceLE, Int.reduceAdd, Int.reduceSub, Int.reduceMul, decide_true, decide_false, Bool.not_true, Bool.not_false, beq_self_eq_true, bne_self_eq_false, and_self, List.isEmpty_nil, List.isEmpty_cons, Bool.true_or, Bool.false_or, List.set_cons_zero, List.set_cons_succ, List.length_cons, List.length_nil, Option.bind_some, List.all_cons, List.all_nil, Bool.or_true, Bool.true_and, Bool.and_true, Int.reduceToNat]
      exact ⟨h3, _, _, _, _, _, _, _, _, _, _, _, _, _, _, _, _, _, _, _, _, _, _, _, _, _, _, _, g3, rfl⟩
    | some zs =>
      rw [(avd_some ok3 hh).1] at ev
      rw [(avd_some ok3 hh).2] at q3
      have hm := head_mem hh
      have hl := head_len' hm
      have tl := tri_lim (show n ≤ 8 by omega)
      obtain ⟨c0, c1⟩ := cqE_av (by omega) (by omega) (by omega) hm
      obtain ⟨v4, h4, ev4, g4, r4, rfl, q4⟩ := f17 n 0 k a zs h3 k3 q3.1.ints (q3.1.ref k3) (by omega)
      have k4 := g4.ok k3
      have o4 := q3.1.sub (g4.sub k3)
      obtain ⟨v5, h5, ev5, g5, r5, rfl, q5⟩ := f17 n 1 l a zs h4 k4 o4.ints (o4.ref k4) (by omega)
      rw [c0] at ev4
      rw [c1] at ev5
      simp (disch := first | (simp only [Nat.reduceBEq, elem_hit, elem_miss, elem_nil]; done) | ((repeat' (first | assumption | exact Sub.refl _ | refine Sub.push ?_ ?_ | exact HokR.fresh (by assumption) | refine Fresh.push ?_ | refine HokR.push ?_ ?_ ?_ | exact Grown.refl | refine GrownR.push ?_ ?_ ?_ | exact refsOK_ints | exact refsOK_pairs | exact Nat.le_refl _ | (simp only [wM, Nat.reduceAdd, Nat.reduceLT, Nat.reduceLeDiff]; done))); done) | omega | decide) only [sBox_ag, ix3, x0, x1, x2, callT en, callT ek, callT el, callT ev, callT ev4, callT ev5, cutEx_n, wrap_i64, idx?_pos, Int.toNat_natCast, ↓wA, wB, resOf, Option.map_some, Option.map_none, List.map_cons, List.map_nil, List.nil_append, List.append_nil, List.cons_append, Nat.reduceBEq, List.getElem?_cons_zero, List.getElem?_cons_succ, List.getElem?_nil, Option.getD_some, Option.getD_none, cond_false, cond_true, and_true, true_and, Nat.zero_add, Nat.mul_one, Int.reduceBEq, Int.reduceBNe, Int.reduceLT, Int.reduceLE, Int.reduceAdd, Int.reduceSub, Int.reduceMul, decide_true, decide_false, Bool.not_true, Bool.not_false, beq_self_eq_true, bne_self_eq_false, and_self, List.isEmpty_nil, List.isEmpty_cons, Bool.true_or, Bool.false_or, List.set_cons_zero, List.set_cons_succ, List.length_cons, List.length_nil, Option.bind_some, List.all_cons, List.all_nil, Bool.or_true, Bool.true_and, Bool.and_true, Int.reduceToNat]
      exact ⟨h5, _, _, _, _, _, _, _, _, _, _, _, _, _, _, _, _, _, _, _, _, _, _, _, _, _, _, _, GrownR.trans g3 (GrownR.trans g4 g5), rfl⟩
  · rintro sC ⟨hx, u0, u1, u3, u6, u7, u8, u9, u10, u11, u13, u15, u16, u17, u19, u20, u21, u22, u24, u42, u62, u64, u76, u83, u85, u100, u108, u110, gx, rfl⟩
    have kx := gx.ok kb
    have byx := by'.sub (gx.sub kb)
    rw [wseq]
    refine wcut (fun ss => ∃ (hy : Hp) (u0 u1 u3 u6 u7 u8 u9 u10 u11 u13 u15 u16 u17 u19 u20 u21 u22 u24 u42 u62 u64 u76 u83 u85 u100 u108 u110 : AV), (Grown hx hy) ∧ ss = { fr := [(0, u0), (1, u1), (2, .int .u8 z), (3, u3), (4, .ptr (h.next + 1) 0), (6, u6), (7, u7), (8, u8), (9, u9), (10, u10), (11, u11), (13, u13), (15, u15), (16, u16), (17, u17), (19, u19), (20, u20), (21, u21), (22, u22), (24, u24), (42, u42), (62, u62), (64, u64), (76, u76), (83, u83), (85, u85), (100, u100), (108, u108), (110, u110)], hp := hy }) ?_ ?_
    · obtain ⟨v, h3, ev, g3, a, rfl, q3⟩ := f27 sn sr hx kx
      have ok3 : smlOK sn sr := ⟨by omega, by omega⟩
      
      have k3 := g3.ok kx
      have x0 := byx.ld (Sub.refl _) (j := 0)
      have x1 := byx.ld (Sub.refl _) (j := 1)
      have z0 := (byx.sub (g3.sub kx)).ld (Sub.refl _) (j := 0)
      have z1 := (byx.sub (g3.sub kx)).ld (Sub.refl _) (j := 1)
      have en := bsn _ kx
      have er := bsr _ kx
      cases hh : (allC lsF sr sn []).head? with
      | none =>
        rw [(sml_none ok3 hh).1] at ev
        simp (disch := first | (simp only [Nat.reduceBEq, elem_hit, elem_miss, elem_nil]; done) | ((repeat' (first | assumption | exact Sub.refl _ | refine Sub.push ?_ ?_ | exact HokR.fresh (by assumption) | refine Fresh.push ?_ | refine HokR.push ?_ ?_ ?_ | exact Grown.refl | refine GrownR.push ?_ ?_ ?_ | exact refsOK_ints | exact refsOK_pairs | exact Nat.le_refl _ | (simp only [wM, Nat.reduceAdd, Nat.reduceLT, Nat.reduceLeDiff]; done))); done) | omega | decide) only [ix2, x0, x1, z0, z1, callT en, callT er, callT ev, cutEx_n, wrap_i64, idx?_pos, Int.toNat_natCast, ↓wA, wB, resOf, Option.map_some, Option.map_none, List.map_cons, List.map_nil, List.nil_append, List.append_nil, List.cons_append, Nat.reduceBEq, List.getElem?_cons_zero, List.getElem?_cons_succ, List.getElem?_nil, Option.getD_some, Option.getD_none, cond_false, cond_true, and_true, true_and, Nat.zero_add, Nat.mul_one, Int.reduceBEq, Int.reduceBNe, Int.reduceLT, Int.reduceLE, Int.reduceAdd, Int.reduceSub, Int.reduceMul, decide_true, decide_false, Bool.not_true, Bool.not_false, beq_self_eq_true, bne_self_eq_false, and_self, List.isEmpty_nil, List.isEmpty_cons, Bool.true_or, Bool.false_or, List.set_cons_zero, List.set_cons_succ, List.length_cons, List.length_nil, Option.bind_some, List.all_cons, List.all_nil, Bool.or_true, Bool.true_and, Bool.and_true, Int.reduceToNat]
        exact ⟨h3, _, _, _, _, _, _, _, _, _, _, _, _, _, _, _, _, _, _, _, _, _, _, _, _, _, _, _, g3, rfl⟩
      | some zs =>
        rw [(sml_some ok3 hh).1] at ev
        rw [(sml_some ok3 hh).2] at q3
        have hm := head_mem hh
        have hl := head_len' hm
        obtain ⟨v4, h4, ev4, g4, r4, rfl, q4⟩ := f25 a zs h3 k3 q3.1.ints (by omega)
        rw [sumE_of (by omega) (by omega) hm] at ev4
        simp (disch := first | (simp only [Nat.reduceBEq, elem_hit, elem_miss, elem_nil]; done) | ((repeat' (first | assumption | exact Sub.refl _ | refine Sub.push ?_ ?_ | exact HokR.fresh (by assumption) | refine Fresh.push ?_ | refine HokR.push ?_ ?_ ?_ | exact Grown.refl | refine GrownR.push ?_ ?_ ?_ | exact refsOK_ints | exact refsOK_pairs | exact Nat.le_refl _ | (simp only [wM, Nat.reduceAdd, Nat.reduceLT, Nat.reduceLeDiff]; done))); done) | omega | decide) only [ix2, x0, x1, z0, z1, callT en, callT er, callT ev, callT ev4, cutEx_n, wrap_i64, idx?_pos, Int.toNat_natCast, ↓wA, wB, resOf, Option.map_some, Option.map_none, List.map_cons, List.map_nil, List.nil_append, List.append_nil, List.cons_append, Nat.reduceBEq, List.getElem?_cons_zero, List.getElem?_cons_succ, List.getElem?_nil, Option.getD_some, Option.getD_none, cond_false, cond_true, and_true, true_and, Nat.zero_add, Nat.mul_one, Int.reduceBEq, Int.reduceBNe, Int.reduceLT, Int.reduceLE, Int.reduceAdd, Int.reduceSub, Int.reduceMul, decide_true, decide_false, Bool.not_true, Bool.not_false, beq_self_eq_true, bne_self_eq_false, and_self, List.isEmpty_nil, List.isEmpty_cons, Bool.true_or, Bool.false_or, List.set_cons_zero, List.set_cons_succ, List.length_cons, List.length_nil, Option.bind_some, List.all_cons, List.all_nil, Bool.or_true, Bool.true_and, Bool.and_true, Int.reduceToNat]
        exact ⟨h4, _, _, _, _, _, _, _, _, _, _, _, _, _, _, _, _, _, _, _, _, _, _, _, _, _, _, _, GrownR.trans g3 g4, rfl⟩
    · rintro sD ⟨hy, u0, u1, u3, u6, u7, u8, u9, u10, u11, u13, u15, u16, u17, u19, u20, u21, u22, u24, u42, u62, u64, u76, u83, u85, u100, u108, u110, gy, rfl⟩
      have ky := gy.ok kx
      have byy := byx.sub (gy.sub kx)
      obtain ⟨v, h3, ev, g3, a, rfl, q3⟩ := f31 tn tr m hy ky
      have ok3 : stlOK tn tr m := ⟨by omega, by omega, by omega⟩
      
      have k3 := g3.ok ky
      have x0 := byy.ld (Sub.refl _) (j := 0)
      have x1 := byy.ld (Sub.refl _) (j := 1)
      have z0 := (byy.sub (g3.sub ky)).ld (Sub.refl _) (j := 0)
      have z1 := (byy.sub (g3.sub ky)).ld (Sub.refl _) (j := 1)
      have em := bm _ ky
      have en := btn _ ky
      have er := btr _ ky
      cases hh : (allC (lpF m) tr tn []).head? with
      | none =>
        rw [(stl_none ok3 hh).1] at ev
        simp (disch := first | (simp only [Nat.reduceBEq, elem_hit, elem_miss, elem_nil]; done) | ((repeat' (first | assumption | exact Sub.refl _ | refine Sub.push ?_ ?_ | exact HokR.fresh (by assumption) | refine Fresh.push ?_ | refine HokR.push ?_ ?_ ?_ | exact Grown.refl | refine GrownR.push ?_ ?_ ?_ | exact refsOK_ints | exact refsOK_pairs | exact Nat.le_refl _ | (simp only [wM, Nat.reduceAdd, Nat.reduceLT, Nat.reduceLeDiff]; done))); done) | omega | decide) only [ix2, x0, x1, z0, z1, callT em, callT en, callT er, callT ev, callT (lv h3), wrap_i64, idx?_pos, Int.toNat_natCast, ↓wA, wB, resOf, Option.map_some, Option.map_none, List.map_cons, List.map_nil, List.nil_append, List.append_nil, List.cons_append, Nat.reduceBEq, List.getElem?_cons_zero, List.getElem?_cons_succ, List.getElem?_nil, Option.getD_some, Option.getD_none, cond_false, cond_true, and_true, true_and, Nat.zero_add, Nat.mul_one, Int.reduceBEq, Int.reduceBNe, Int.reduceLT, Int.reduceLE, Int.reduceAdd, Int.reduceSub, Int.reduceMul, decide_true, decide_false, Bool.not_true, Bool.not_false, beq_self_eq_true, bne_self_eq_false, and_self, List.isEmpty_nil, List.isEmpty_cons, Bool.true_or, Bool.false_or, List.set_cons_zero, List.set_cons_succ, List.length_cons, List.length_nil, Option.bind_some, List.all_cons, List.all_nil, Bool.or_true, Bool.true_and, Bool.and_true, Int.reduceToNat]
        exact ⟨_, rfl, rfl⟩
      | some zs =>
        rw [(stl_some ok3 hh).1] at ev
        rw [(stl_some ok3 hh).2] at q3
        have hm := head_mem hh
        have hl := head_len' hm
        obtain ⟨p1, p2, p3⟩ := (st_iff (show 2 ≤ m by omega)).1 hm
        have okp : prgOK zs m := ⟨by omega, by omega, okc_of p2 (by omega)⟩
        obtain ⟨v4, h4, ev4, g4, r4, rfl, q4⟩ := prg_good a zs m h3 k3 q3.1.ints okp
        rw [p3] at ev4
        have e5 : (if ((none : Option (Nat × Nat)).map pr2).isSome = true then (0 : Int) else 5) = 5 := rfl
        rw [e5] at ev4
        simp (disch := first | (simp only [Nat.reduceBEq, elem_hit, elem_miss, elem_nil]; done) | ((repeat' (first | assumption | exact Sub.refl _ | refine Sub.push ?_ ?_ | exact HokR.fresh (by assumption) | refine Fresh.push ?_ | refine HokR.push ?_ ?_ ?_ | exact Grown.refl | refine GrownR.push ?_ ?_ ?_ | exact refsOK_ints | exact refsOK_pairs | exact Nat.le_refl _ | (simp only [wM, Nat.reduceAdd, Nat.reduceLT, Nat.reduceLeDiff]; done))); done) | omega | decide) only [ix2, x0, x1, z0, z1, callT em, callT en, callT er, callT ev, callT ev4, callT (lv h4), wrap_i64, idx?_pos, Int.toNat_natCast, ↓wA, wB, resOf, Option.map_some, Option.map_none, List.map_cons, List.map_nil, List.nil_append, List.append_nil, List.cons_append, Nat.reduceBEq, List.getElem?_cons_zero, List.getElem?_cons_succ, List.getElem?_nil, Option.getD_some, Option.getD_none, cond_false, cond_true, and_true, true_and, Nat.zero_add, Nat.mul_one, Int.reduceBEq, Int.reduceBNe, Int.reduceLT, Int.reduceLE, Int.reduceAdd, Int.reduceSub, Int.reduceMul, decide_true, decide_false, Bool.not_true, Bool.not_false, beq_self_eq_true, bne_self_eq_false, and_self, List.isEmpty_nil, List.isEmpty_cons, Bool.true_or, Bool.false_or, List.set_cons_zero, List.set_cons_succ, List.length_cons, List.length_nil, Option.bind_some, List.all_cons, List.all_nil, Bool.or_true, Bool.true_and, Bool.and_true, Int.reduceToNat]
        exact ⟨_, rfl, rfl⟩
end Go.Proofs.Ytpclkcamfainiaa
