import Derived.Test.YtcfngdnmpogaoaaWalk9
import Derived.Test.YtcfngdnmpogaoaaWalk6b
namespace Go.Proofs.Ytcfngdnmpogaoaa
open Go.RowKit

theorem two_box (w : World) (o o' : Obj) : Below w.heap.size w ((w.alloc o).alloc o') := ((Below.refl _ w).alloc (Nat.le_refl _) o).alloc (by simp) o'

theorem getD_str (s : ByteArray) (j : Nat) (h : j < s.size) : s[j] = s.data.toList.getD j 0 := by
  rw [List.getD_eq_getElem?_getD, List.getElem?_eq_getElem (by rw [keyLen]; exact h)]
  rfl

theorem extract_str (s : ByteArray) (a b : Nat) : s.extract a b = str ((s.data.toList.drop a).take (b - a)) := by
  rw [← str_of (s.extract a b)]
  congr 1
  simp [ByteArray.data_extract, List.extract_eq_take_drop]

end Go.Proofs.Ytcfngdnmpogaoaa
