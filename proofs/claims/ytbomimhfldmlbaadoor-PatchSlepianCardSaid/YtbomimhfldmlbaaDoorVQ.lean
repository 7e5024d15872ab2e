/- Arguments of laws: arrays and structs of four numbers. -/
import Derived.Test.YtbomimhfldmlbaaDoorVA
set_option linter.unusedSimpArgs false
set_option linter.unusedVariables false
namespace Go.Abs
open Go Go.RowKit Go.WideShapes Go.ChangeShapes Go.Deep

theorem open_arr4 {P : Program} {H : Type} {enc : TypeId × Value → H} {w : World} {base b0 : Nat} {spare : Nat → Bool} {held : Bool} {t e : TypeId} {k : IntKind} {r : Reach} {v : Value} {d : DataW H} {ps : List MemPlace}
    (ht : P.underlying t = some (.array 4 e)) (hr : RowT P t (List.replicate 4 k)) (hval : Value.okWide P w r b0 t v) (hd : DataW.Trod enc P w base spare held t v d ps) :
    ∃ x y z u : Int, v = .agg #[.int k x, .int k y, .int k z, .int k u] ∧ (Lit.int k x).wf = true ∧ (Lit.int k y).wf = true ∧ (Lit.int k z).wf = true ∧ (Lit.int k u).wf = true := by
  obtain ⟨zs, hl, rfl, hw⟩ := open_arr ht hr hval hd
  match zs, hl, hw with
  | [x, y, z, u], _, hw => exact ⟨x, y, z, u, rfl, hw x (by simp), hw y (by simp), hw z (by simp), hw u (by simp)⟩

theorem RowT.quad {P : Program} {e : TypeId} {f0 f1 f2 f3 : Field} {k0 k1 k2 k3 : IntKind} (he : P.underlying e = some (.struct #[f0, f1, f2, f3])) (ce : P.cellsOf e = 4) (o0 : f0.offset = 0) (o1 : f1.offset = 1) (o2 : f2.offset = 2) (o3 : f3.offset = 3)
    (c0 : P.cellsOf f0.type = 1) (c1 : P.cellsOf f1.type = 1) (c2 : P.cellsOf f2.type = 1) (c3 : P.cellsOf f3.type = 1)
    (h0 : P.underlying f0.type = some (.int k0)) (h1 : P.underlying f1.type = some (.int k1)) (h2 : P.underlying f2.type = some (.int k2)) (h3 : P.underlying f3.type = some (.int k3)) : RowT P e [k0, k1, k2, k3] :=
  ⟨ce, fun H enc w base sp hd n cs x h => by
    obtain ⟨xs, m, _, _, hl, hxl, hf⟩ := DataW.trod_struct he h
    rw [ce] at hl
    match xs, hxl, cs, hl with
    | [y0, y1, y2, y3], _, [v0, v1, v2, v3], _ =>
      have g0 := hf 0 f0 rfl
      have g1 := hf 1 f1 rfl
      have g2 := hf 2 f2 rfl
      have g3 := hf 3 f3 rfl
      simp [o0, o1, o2, o3, c0, c1, c2, c3] at g0 g1 g2 g3
      obtain ⟨z0, e0, _, w0⟩ := DataW.trod_int h0 g0
      obtain ⟨z1, e1, _, w1⟩ := DataW.trod_int h1 g1
      obtain ⟨z2, e2, _, w2⟩ := DataW.trod_int h2 g2
      obtain ⟨z3, e3, _, w3⟩ := DataW.trod_int h3 g3
      cases e0
      cases e1
      cases e2
      cases e3
      refine ⟨[z0, z1, z2, z3], rfl, fun j k' z' a b => ?_⟩
      match j with
      | 0 => simp at a b; subst a b; exact ⟨rfl, w0⟩
      | 1 => simp at a b; subst a b; exact ⟨rfl, w1⟩
      | 2 => simp at a b; subst a b; exact ⟨rfl, w2⟩
      | 3 => simp at a b; subst a b; exact ⟨rfl, w3⟩
      | j + 4 => simp at a⟩

theorem open_quad {P : Program} {H : Type} {enc : TypeId × Value → H} {w : World} {base b0 : Nat} {spare : Nat → Bool} {held : Bool} {t : TypeId} {fs : Array Field} {k : IntKind} {r : Reach} {v : Value} {d : DataW H} {ps : List MemPlace}
    (ht : P.underlying t = some (.struct fs)) (hr : RowT P t [k, k, k, k]) (hval : Value.okWide P w r b0 t v) (hd : DataW.Trod enc P w base spare held t v d ps) :
    ∃ x y z u : Int, v = .agg #[.int k x, .int k y, .int k z, .int k u] ∧ (Lit.int k x).wf = true ∧ (Lit.int k y).wf = true ∧ (Lit.int k z).wf = true ∧ (Lit.int k u).wf = true := by
  simp only [Value.okWide, ht] at hval
  obtain ⟨cs, rfl, hsz, _⟩ := hval
  obtain ⟨fuel, hf⟩ := hd
  have hf' : DataW.trod enc P w base spare held fuel t cs.toList = some (d, ps) := hf
  obtain ⟨zs, hl, hz⟩ := hr.2 _ _ _ _ _ _ _ _ _ hf'
  rw [hr.1] at hsz
  match zs, hl, hz with
  | [x, y, z, u], _, hz =>
    have a0 := hz 0 k x rfl rfl
    have a1 := hz 1 k y rfl rfl
    have a2 := hz 2 k z rfl rfl
    have a3 := hz 3 k u rfl rfl
    refine ⟨x, y, z, u, ?_, a0.2, a1.2, a2.2, a3.2⟩
    congr 1
    apply Array.ext'
    refine List.ext_getElem? fun j => ?_
    match j with
    | 0 => exact a0.1
    | 1 => exact a1.1
    | 2 => exact a2.1
    | 3 => exact a3.1
    | j + 4 =>
      rw [List.getElem?_eq_none (by simp at hsz ⊢; omega), List.getElem?_eq_none (by simp)]
end Go.Abs
