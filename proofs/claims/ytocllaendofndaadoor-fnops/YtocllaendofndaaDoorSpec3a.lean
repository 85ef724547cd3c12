/-
  Contracts of the model's functions of chapter 3, first part: the fault of an operation.
-/
import Derived.Test.YtocllaendofndaaDoorSpec3fa
import Derived.Test.YtocllaendofndaaDoorSpec3fb
import Derived.Test.YtocllaendofndaaDoorSpec3fc
import Derived.Test.YtocllaendofndaaDoorG2
import Derived.Test.YtocllaendofndaaDoorG3
import Derived.Deep.DeepCutAuto
namespace Go.Proofs.YtocllaendofndaaDoor
open Go.RowKit


theorem l3Form_c (b off : Nat) (o : O) (w : World) (h : OpAt w b off o) :
    Calls Tryd.prog 60 #[.pointer (some ⟨b, off, none⟩)] w fun e w' => e = .returned (.bool (formB o)) ∧ Below w.heap.size w w' := by
  cases hi : inB o.k 1 7
  · exact l3Form_0 b off o w h hi
  · have hki := inB_true.1 hi
    have h7 : o.k = 1 ∨ o.k = 2 ∨ o.k = 3 ∨ o.k = 4 ∨ o.k = 5 ∨ o.k = 6 ∨ o.k = 7 := by omega
    rcases h7 with hk | hk | hk | hk | hk | hk | hk
    · exact l3Form_1 b off o w h hk
    · exact l3Form_2 b off o w h hk
    · exact l3Form_3 b off o w h hk
    · exact l3Form_4 b off o w h hk
    · exact l3Form_5 b off o w h hk
    · exact l3Form_6 b off o w h hk
    · exact l3Form_7 b off o w h hk
end Go.Proofs.YtocllaendofndaaDoor
