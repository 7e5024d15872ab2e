/- What sorting does to a list of numbers, and to a slice. -/
import Derived.Test.YtelalpohbodolaaDoorSI
set_option linter.unusedSimpArgs false
set_option linter.unusedVariables false
namespace Go.Abs
open Go
def insI (a : Int) : List Int → List Int
  | [] => [a]
  | b :: l => bif decide (a ≤ b) then a :: b :: l else b :: insI a l
def isortI : List Int → List Int
  | [] => []
  | a :: l => insI a (isortI l)
theorem insI_perm (a : Int) : ∀ l, (insI a l).Perm (a :: l)
  | [] => List.Perm.refl _
  | b :: l => by
    rw [insI]
    cases h : decide (a ≤ b)
    · simp only [cond_false]
      exact (List.Perm.cons b (insI_perm a l)).trans (List.Perm.swap a b l)
    · simp only [cond_true]
      exact List.Perm.refl _
theorem isortI_perm : ∀ l, (isortI l).Perm l
  | [] => List.Perm.refl _
  | a :: l => (insI_perm a _).trans (List.Perm.cons a (isortI_perm l))
theorem insI_sorted (a : Int) : ∀ {l : List Int}, l.Pairwise (fun x y => decide (x ≤ y) = true) → (insI a l).Pairwise (fun x y => decide (x ≤ y) = true)
  | [], _ => by simp [insI]
  | b :: l, h => by
    rw [insI]
    rw [List.pairwise_cons] at h
    cases e : decide (a ≤ b)
    · simp only [cond_false, List.pairwise_cons]
      refine ⟨fun c hc => ?_, insI_sorted a h.2⟩
      rcases List.mem_cons.1 ((insI_perm a l).mem_iff.1 hc) with rfl | hc
      · simp at e ⊢; omega
      · exact h.1 c hc
    · simp only [cond_true, List.pairwise_cons]
      refine ⟨fun c hc => ?_, h⟩
      rcases List.mem_cons.1 hc with rfl | hc
      · exact e
      · have := h.1 c hc; simp at *; omega
theorem isortI_sorted : ∀ l, (isortI l).Pairwise (fun x y => decide (x ≤ y) = true)
  | [] => List.Pairwise.nil
  | a :: l => insI_sorted a (isortI_sorted l)
theorem isortI_eq (l : List Int) : isortI l = l.mergeSort fun x y => decide (x ≤ y) := by
  refine List.Perm.eq_of_pairwise (le := fun x y => decide (x ≤ y) = true) (fun a b _ _ h1 h2 => by simp at h1 h2; omega) (isortI_sorted l) ?_ ((isortI_perm l).trans (l.mergeSort_perm _).symm)
  exact List.pairwise_mergeSort (fun a b c h1 h2 => by simp at *; omega) (fun a b => by simp; omega) _
def unI : List AV → Option (List Int)
  | [] => some []
  | .int .i64 a :: l => match unI l with
    | some r => some (a :: r)
    | none => none
  | _ => none
theorem unI_spec : ∀ {l : List AV} {zs : List Int}, unI l = some zs → l = zs.map (.int .i64)
  | [], zs, h => by cases h; rfl
  | a :: l, zs, h => by
    unfold unI at h
    split at h
    · rename_i h0; cases h0
    · rename_i b l' h0
      cases h0
      split at h
      · rename_i r hr
        cases h
        rw [unI_spec hr]
        rfl
      · cases h
    · cases h
theorem unI_of : ∀ zs : List Int, unI (zs.map (.int .i64)) = some zs
  | [] => rfl
  | a :: zs => by simp only [List.map_cons, unI, unI_of zs]
/-- What a call of Sort does: the cells of the slice are sorted. -/
def sortT (args : List AV) (h : Hp) : Option (AV × Hp) :=
  match args with
  | [.sl id off n _ 1] => match lkB h.blks id with
    | some b => match unI ((b.cells.drop off).take n) with
      | some zs => bif Nat.beq zs.length n && Nat.ble n 1073741824 then (h.write id off ((isortI zs).map (.int .i64))).map fun h' => (.tu [], h') else none
      | none => none
    | none => none
  | _ => none
/-- What is left when what is there twice, one behind the other, is left out. -/
def cmpI : List Int → List Int
  | [] => []
  | [a] => [a]
  | a :: b :: l => bif decide (a = b) then cmpI (b :: l) else a :: cmpI (b :: l)
/-- What a call of Compact does. -/
def cmpT (args : List AV) (h : Hp) : Option (AV × Hp) :=
  match args with
  | [.sl id off n cap 1] => match lkB h.blks id with
    | some b => match unI ((b.cells.drop off).take n) with
      | some zs => bif Nat.beq zs.length n && Nat.ble n 1073741824 && Nat.ble (cmpI zs).length zs.length then (h.write id off ((cmpI zs ++ List.replicate (zs.length - (cmpI zs).length) 0).map (.int .i64))).map fun h' => (.sl id off (cmpI zs).length cap 1, h') else none
      | none => none
    | none => none
  | _ => none
/-- The decimal digits of a number. -/
def decF : Nat → Nat → List UInt8
  | 0, _ => [48]
  | f + 1, u => bif decide (u < 10) then [UInt8.ofNat (48 + u)] else decF f (u / 10) ++ [UInt8.ofNat (48 + u % 10)]
/-- What a call of Itoa gives. -/
def itoaT (args : List AV) (h : Hp) : Option (AV × Hp) :=
  match args with
  | [.int .i64 n] => bif decide (0 ≤ n) && decide (n < 1000000000000000000) then some (.str (decF 18 n.toNat), h) else none
  | _ => none
end Go.Abs
