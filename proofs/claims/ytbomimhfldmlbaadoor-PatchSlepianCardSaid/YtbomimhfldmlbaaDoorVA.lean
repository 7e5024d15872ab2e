/- Arguments of laws: arrays of numbers. -/
import Derived.Test.YtbomimhfldmlbaaDoorVV
set_option linter.unusedSimpArgs false
set_option linter.unusedVariables false
namespace Go.Abs
open Go Go.RowKit Go.WideShapes Go.ChangeShapes Go.Deep

theorem open_arr {P : Program} {H : Type} {enc : TypeId × Value → H} {w : World} {base b0 : Nat} {spare : Nat → Bool} {held : Bool} {t e : TypeId} {n : Nat} {k : IntKind} {r : Reach} {v : Value} {d : DataW H} {ps : List MemPlace}
    (ht : P.underlying t = some (.array n e)) (hr : RowT P t (List.replicate n k)) (hval : Value.okWide P w r b0 t v) (hd : DataW.Trod enc P w base spare held t v d ps) :
    ∃ zs : List Int, zs.length = n ∧ v = .agg (zs.map (Value.int k)).toArray ∧ ∀ z ∈ zs, (Lit.int k z).wf = true := by
  simp only [Value.okWide, ht] at hval
  obtain ⟨cs, rfl, hsz, _⟩ := hval
  obtain ⟨fuel, hf⟩ := hd
  have hf' : DataW.trod enc P w base spare held fuel t cs.toList = some (d, ps) := hf
  obtain ⟨zs, hl, hz⟩ := hr.2 _ _ _ _ _ _ _ _ _ hf'
  rw [List.length_replicate] at hl
  rw [hr.1, List.length_replicate] at hsz
  have hrep : ∀ j, j < n → (List.replicate n k)[j]? = some k := fun j hj => by simp [List.getElem?_replicate, hj]
  refine ⟨zs, hl, ?_, fun z hm => ?_⟩
  · congr 1
    apply Array.ext'
    rw [List.toList_toArray]
    refine List.ext_getElem? fun j => ?_
    by_cases hj : j < n
    · have hj2 : j < zs.length := by omega
      have := (hz j k zs[j] (hrep j hj) (List.getElem?_eq_getElem hj2)).1
      rw [this, List.getElem?_map, List.getElem?_eq_getElem hj2]
      rfl
    · rw [List.getElem?_eq_none (by simp; omega), List.getElem?_eq_none (by simp; omega)]
  · obtain ⟨j, hj, rfl⟩ := List.mem_iff_getElem.1 hm
    exact (hz j k zs[j] (hrep j (by omega)) (List.getElem?_eq_getElem hj)).2

theorem open_arr2 {P : Program} {H : Type} {enc : TypeId × Value → H} {w : World} {base b0 : Nat} {spare : Nat → Bool} {held : Bool} {t e : TypeId} {k : IntKind} {r : Reach} {v : Value} {d : DataW H} {ps : List MemPlace}
    (ht : P.underlying t = some (.array 2 e)) (hr : RowT P t (List.replicate 2 k)) (hval : Value.okWide P w r b0 t v) (hd : DataW.Trod enc P w base spare held t v d ps) :
    ∃ x y : Int, v = .agg #[.int k x, .int k y] ∧ (Lit.int k x).wf = true ∧ (Lit.int k y).wf = true := by
  obtain ⟨zs, hl, rfl, hw⟩ := open_arr ht hr hval hd
  match zs, hl, hw with
  | [x, y], _, hw => exact ⟨x, y, rfl, hw x (by simp), hw y (by simp)⟩

theorem open_arr3 {P : Program} {H : Type} {enc : TypeId × Value → H} {w : World} {base b0 : Nat} {spare : Nat → Bool} {held : Bool} {t e : TypeId} {k : IntKind} {r : Reach} {v : Value} {d : DataW H} {ps : List MemPlace}
    (ht : P.underlying t = some (.array 3 e)) (hr : RowT P t (List.replicate 3 k)) (hval : Value.okWide P w r b0 t v) (hd : DataW.Trod enc P w base spare held t v d ps) :
    ∃ x y z : Int, v = .agg #[.int k x, .int k y, .int k z] ∧ (Lit.int k x).wf = true ∧ (Lit.int k y).wf = true ∧ (Lit.int k z).wf = true := by
  obtain ⟨zs, hl, rfl, hw⟩ := open_arr ht hr hval hd
  match zs, hl, hw with
  | [x, y, z], _, hw => exact ⟨x, y, z, rfl, hw x (by simp), hw y (by simp), hw z (by simp)⟩
end Go.Abs
