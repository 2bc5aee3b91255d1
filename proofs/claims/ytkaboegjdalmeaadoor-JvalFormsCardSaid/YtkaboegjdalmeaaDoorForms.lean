/-
  refectorylaw02.JvalForms answers true at every input.
-/
import Derived.Test.YtkaboegjdalmeaaDoorNumForms
import Derived.Test.YtkaboegjdalmeaaDoorAwake2
namespace Go.Proofs.YtkaboegjdalmeaaDoor
open Go.RowKit

theorem number_is (s : ByteArray) (w : World) (a b : Bool) (h1 : numWhole (vbl s) = a) (h2 : numOk (vbl s) = b) :
    Calls Tryd.prog 9 #[.string s] w fun e w' => e = .returned (.tuple #[.bool a, .bool b]) ∧ Below w.heap.size w w' := by
  subst h1 h2
  exact number_any s w
theorem number_no (s : ByteArray) (w : World) (h2 : numOk (vbl s) = false) :
    Calls Tryd.prog 9 #[.string s] w fun e w' => e = .returned (.tuple #[.bool false, .bool false]) ∧ Below w.heap.size w w' :=
  number_is s w false false (by unfold numWhole; rw [h2]; rfl) h2

theorem vbl_app (a b : ByteArray) : vbl (a ++ b) = vbl a ++ vbl b := app_list a b

/-- What is asked of the texts of the law. -/
structure FormsOk (X Y Z : ByteArray) : Prop where
  sx : X.size ≤ 7
  sy : Y.size ≤ 6
  sz : Z.size ≤ 3
  x1 : numOk (vbl X) = true ∧ numWhole (vbl X) = true
  x2 : numOk (vbl (X ++ ⟨#[46]⟩ ++ Y)) = true ∧ numWhole (vbl (X ++ ⟨#[46]⟩ ++ Y)) = false
  x3 : numOk (vbl (X ++ ⟨#[101]⟩ ++ Z)) = true ∧ numWhole (vbl (X ++ ⟨#[101]⟩ ++ Z)) = false
  x4 : numOk (vbl (X ++ ⟨#[46]⟩ ++ Y ++ ⟨#[69, 45]⟩ ++ Z)) = true ∧ numWhole (vbl (X ++ ⟨#[46]⟩ ++ Y ++ ⟨#[69, 45]⟩ ++ Z)) = false
  a : numOk (vbl (X ++ ⟨#[46]⟩)) = false
  b : numOk (vbl (X ++ ⟨#[101]⟩)) = false
  c : numOk (vbl (X ++ ⟨#[101, 43]⟩)) = false
  d : numOk (vbl (⟨#[46]⟩ ++ Y)) = false
  e : numOk (vbl (⟨#[48]⟩ ++ Y)) = false
  f : numOk (vbl (⟨#[43]⟩ ++ X)) = false
  g : numOk (vbl (X ++ ⟨#[32]⟩)) = false
  h : numOk (vbl (⟨#[32]⟩ ++ X)) = false
  i : numOk (vbl (⟨#[45, 45]⟩ ++ X)) = false
  j : numOk (vbl (X ++ ⟨#[46]⟩ ++ Y ++ ⟨#[46]⟩ ++ Z)) = false
  k : numOk (vbl (X ++ ⟨#[101]⟩ ++ Z ++ ⟨#[101]⟩ ++ Z)) = false
  l : numOk (vbl (X ++ ⟨#[120]⟩)) = false

theorem forms_ok (X Y Z : ByteArray) (sg x : List UInt8) (hs : isSgn sg) (hx : IsNat x) (hX : vbl X = sg ++ x) (hY : IsNat (vbl Y)) (hZ : IsNat (vbl Z)) (sx : x.length ≤ 6) (sy : Y.size ≤ 6) (sz : Z.size ≤ 3) : FormsOk X Y Z := by
  have l1 : sg.length ≤ 1 := by rcases hs with rfl | rfl <;> simp
  have ly : (vbl Y).length ≤ 6 := sy
  have lz : (vbl Z).length ≤ 3 := sz
  have hX' : vbl X = sg ++ (x ++ []) := by rw [List.append_nil]; exact hX
  have hsz : X.size = (vbl X).length := rfl
  refine ⟨?_, sy, sz, ?_, ?_, ?_, ?_, ?_, ?_, ?_, ?_, ?_, ?_, ?_, ?_, ?_, ?_, ?_, ?_⟩
  · rw [hsz, hX, List.length_append]; omega
  · rw [hX']; exact form1 hs hx (by simp; omega)
  · rw [vbl_app, vbl_app, hX, show (sg ++ x) ++ vbl ⟨#[46]⟩ ++ vbl Y = sg ++ (x ++ 46 :: vbl Y) by simp [vbl]]
    exact form2 hs hx hY (by simp; omega)
  · rw [vbl_app, vbl_app, hX, show (sg ++ x) ++ vbl ⟨#[101]⟩ ++ vbl Z = sg ++ (x ++ 101 :: vbl Z) by simp [vbl]]
    exact form3 hs hx hZ (by simp; omega)
  · rw [vbl_app, vbl_app, vbl_app, vbl_app, hX, show (sg ++ x) ++ vbl ⟨#[46]⟩ ++ vbl Y ++ vbl ⟨#[69, 45]⟩ ++ vbl Z = sg ++ (x ++ 46 :: (vbl Y ++ 69 :: 45 :: vbl Z)) by simp [vbl]]
    exact form4 hs hx hY hZ (by simp; omega)
  · rw [vbl_app, hX, List.append_assoc]; exact bad_a hs hx
  · rw [vbl_app, hX, List.append_assoc]; exact bad_b hs hx
  · rw [vbl_app, hX, List.append_assoc]; exact bad_c hs hx
  · rw [vbl_app]; exact bad_front 46 _ (by decide) (by decide) (by decide)
  · rw [vbl_app]; exact bad_zero hY
  · rw [vbl_app]; exact bad_front 43 _ (by decide) (by decide) (by decide)
  · rw [vbl_app, hX, List.append_assoc]; exact bad_tail hs hx 32 (by decide) (by decide) (by decide)
  · rw [vbl_app]; exact bad_front 32 _ (by decide) (by decide) (by decide)
  · rw [vbl_app]; exact bad_minus _
  · rw [vbl_app, vbl_app, vbl_app, vbl_app, hX, show (sg ++ x) ++ vbl ⟨#[46]⟩ ++ vbl Y ++ vbl ⟨#[46]⟩ ++ vbl Z = sg ++ (x ++ 46 :: (vbl Y ++ 46 :: vbl Z)) by simp [vbl]]
    exact bad_j hs hx hY
  · rw [vbl_app, vbl_app, vbl_app, vbl_app, hX, show (sg ++ x) ++ vbl ⟨#[101]⟩ ++ vbl Z ++ vbl ⟨#[101]⟩ ++ vbl Z = sg ++ (x ++ 101 :: (vbl Z ++ 101 :: vbl Z)) by simp [vbl]]
    exact bad_k hs hx hZ
  · rw [vbl_app, hX, List.append_assoc]; exact bad_tail hs hx 120 (by decide) (by decide) (by decide)

end Go.Proofs.YtkaboegjdalmeaaDoor
