/-
  What refectoryref01.Letter and Name answer.
-/
import Derived.Test.YtakmkhkbeabgcaaDoorRef2
import Derived.Test.YtakmkhkbeabgcaaDoorLetters
namespace Go.Proofs.YtakmkhkbeabgcaaDoor
open Go.RowKit

set_option maxHeartbeats 1000000 in
theorem refLetter_any (c : Int) (w : World) :
    Calls Tryd.prog 26 #[.int .u8 c] w fun e w' => e = .returned (.bool (letB c)) ∧ w = w' := by
  go_enter Tryd.func26, Tryd.ntmps26
  go_wp2
  all_goals
    go_ret
    refine ⟨ret_bool ?_, rfl⟩
    rw [Bool.eq_iff_iff]
    simp [letB]
    try omega

theorem nameGo_cons (s : ByteArray) (pos : Nat) (h : pos < s.size) : nameGo pos (s.data.toList.drop pos) = (nameOk pos (s[pos].toNat : Int) && nameGo (pos + 1) (s.data.toList.drop (pos + 1))) := by
  rw [drop_cons s pos h]; rfl

end Go.Proofs.YtakmkhkbeabgcaaDoor
