/- strconv.Itoa: what the library's own text does, by the shelf's theorem; it reads a table. -/
import Derived.Test.YtelalpohbodolaaDoorU
import Derived.Test.YtelalpohbodolaaDoorKT
import Derived.Shelf.Strconv.Itoa3
set_option linter.unusedSimpArgs false
set_option linter.unusedVariables false
namespace Go.Abs
open Go Go.RowKit
theorem decF_eq : ∀ (f u : Nat), u < 10 ^ f → decF f u = Lib.decDigits u
  | 0, u, h => by
    have : u = 0 := by simpa using h
    subst this
    simp [decF, Lib.decDigits]
  | f + 1, u, h => by
    rw [decF, Lib.decDigits]
    by_cases h1 : u < 10
    · simp [h1]
    · have e : decide (u < 10) = false := decide_eq_false h1
      rw [e, cond_false, dif_neg h1, decF_eq f (u / 10) (by rw [Nat.pow_succ] at h; omega)]
section
variable {P : Program} {base : Prot} {σ : Env} {w : World} {h : Hp}
open Go.Proofs Go.Shelf in
theorem itoaT_sound {ρ : Ren} (L : LaysM.n171 P ρ) (hg : P.globalNamed "internal/strconv.uint64pow10" = some 0) {args : List AV} {h' : Hp} {v : AV} (hs : itoaT args h = some (v, h')) {vs : Array Value}
    (H : HR σ base h w) (hb : base.fit w.heap.size) (hv : Rs σ args vs.toList) : Calls P (ρ.f 171) vs w (Post base σ v h' w) := by
  unfold itoaT at hs
  split at hs
  · rename_i n
    cases hcc : (decide (0 ≤ n) && decide (n < 1000000000000000000))
    · simp [hcc] at hs
    · simp only [hcc, cond_true, Option.some.injEq, Prod.mk.injEq] at hs
      obtain ⟨rfl, rfl⟩ := hs
      simp only [Bool.and_eq_true, decide_eq_true_eq] at hcc
      simp only [Rs] at hv
      obtain ⟨v0, l0, e0, r0, rfl⟩ := hv
      simp only [R] at r0
      subst r0
      obtain ⟨rfl⟩ : vs = #[.int .i64 n] := by
        apply Array.ext'
        simpa using e0
      have htab : Lib.TabIs P w "internal/strconv.uint64pow10" .u64 Lib.pow10Tab := by
        obtain ⟨e, fz, he⟩ := H.lps.glo (0, Lib.pow10Tab.map fun z => Value.int .u64 z) (by simp [glob])
        unfold Lib.TabIs World.var?
        simp only [hg, Option.bind_some, he]
      refine (Any.strconv_Itoa L n (by omega) (by omega) w htab).mono fun ee w' he => ?_
      obtain ⟨rfl, k, os, rfl⟩ := he
      have B1 : BelowS (below w.heap.size) w (Go.Sort.grow (w.drewN k) os) := ⟨rfl, rfl, rfl, by rw [Go.Sort.size_grow]; exact Nat.le_add_right _ _, fun i hi =>
        Go.Sort.heap_grow_old (w.drewN k) os (hi.elim (fun g => g) fun g => H.lps.glo.lt g)⟩
      refine ⟨_, σ, rfl, ?_, Ext.refl _, H.keep B1, Fw.lower hb ⟨B1, fun i ds hi => ?_, fun i x hi => ⟨x, ?_⟩⟩⟩
      · simp only [R]
        rw [Lib.itoa, if_neg (by omega), decF_eq _ _ (by omega)]
      · rw [B1.block i (.inl (lt_of_heap hi))]; exact hi
      · rw [B1.block i (.inl (lt_of_heap hi))]; exact hi
  · cases hs
end
end Go.Abs
