/-
  Plain mathematics of layer 1 (varint): no program is named here.
-/
import Derived.Lib.Varint
import Derived.Lib.Zigzag
import Derived.Laws.Concat
import Derived.Lib.Strings
namespace Go.Proofs.Ytaclkofkajehpaa.V
open Go

/-- A number's bytes. -/
def num (n : Int) : List UInt8 := Lib.uvarint (Lib.zigzag n)

theorem num_len (n : Int) (h0 : -9223372036854775808 ≤ n) (h1 : n ≤ 9223372036854775807) : (num n).length ≤ 10 := Lib.uvarint_length64 (Lib.zigzag_lt h0 h1)
theorem num_pos (n : Int) : 1 ≤ (num n).length := Lib.uvarint_pos _

/-- A string that is given by its bytes. -/
def str (l : List UInt8) : ByteArray := ⟨l.toArray⟩
theorem str_size (l : List UInt8) : (str l).size = l.length := by simp [str, ByteArray.size]
theorem str_data (l : List UInt8) : (str l).data.toList = l := by simp [str]
theorem str_eq (s : ByteArray) : str s.data.toList = s := by obtain ⟨⟨l⟩⟩ := s; rfl
theorem str_toList (l : List UInt8) : (str l).toList = l := by rw [Lib.toList_data]; exact str_data l
theorem str_append (a b : List UInt8) : str a ++ str b = str (a ++ b) := by unfold str; exact ByteArray.mk_append_mk a b
theorem str_inj {a b : List UInt8} (h : str a = str b) : a = b := by rw [← str_data a, h, str_data]

end Go.Proofs.Ytaclkofkajehpaa.V
