import Derived.Test.YtdodkbpagbblmaaDoorQ23
namespace Go.Proofs.YtdodkbpagbblmaaDoor
open Go Go.RowKit

theorem sameW_eq (x y : Wd) : sameW x y = (x.kind == y.kind && (x.txt.data.toList == y.txt.data.toList && (x.set == y.set && x.num == y.num))) := by
  unfold sameW
  rw [ByteArray.toList_eq, ByteArray.toList_eq]

def kSet : BS := (readS [91, 92, 93, 45, 126, 93]).getD 0#256
/-- The words of the law's own text. -/
def kWs : List (Wd × Nat) := [(⟨1, ⟨#[97, 49]⟩, 0#256, 0⟩, 0), (⟨5, ⟨#[61]⟩, 0#256, 0⟩, 2), (⟨2, ⟨#[120]⟩, 0#256, 0⟩, 3), (⟨3, ⟨#[]⟩, kSet, 0⟩, 6), (⟨4, ⟨#[]⟩, 0#256, 2⟩, 12), (⟨5, ⟨#[59]⟩, 0#256, 0⟩, 13)]
theorem k_lex : lexAt (⟨#[97, 49, 61, 34, 120, 34, 91, 92, 93, 45, 126, 93, 50, 59, 47, 47, 120]⟩ : ByteArray).data.toList 0 = (kWs, none) := by kernel_rfl
theorem k_bad : (lexAt (⟨#[98, 32, 34, 97]⟩ : ByteArray).data.toList 0).2 = some 2 := by kernel_rfl
theorem k_name : nameB (⟨#[97, 49]⟩ : ByteArray).data.toList = true := by kernel_rfl
theorem k_may : (withI kWs).all (fun x => mayB x.1) = true := by
  have h : (fun x : Wd × Int => mayB x.1) = fun x => okW x.1 && (x.1.kind == (bareW x.1).kind && (x.1.txt.data.toList == (bareW x.1).txt.data.toList && (x.1.set == (bareW x.1).set && x.1.num == (bareW x.1).num))) := by
    funext x
    unfold mayB
    rw [sameW_eq]
  rw [h]
  decide +kernel
theorem k_join : joinW (withI kWs) = [97, 49, 32, 61, 32, 34, 120, 34, 32, 91, 92, 93, 45, 126, 93, 32, 50, 32, 59] := by decide +kernel
theorem k_print : printR (withI kWs) = (⟨#[97, 49, 32, 61, 32, 34, 120, 34, 32, 91, 92, 93, 45, 126, 93, 32, 50, 32, 59]⟩, 0) := by
  unfold printR
  rw [if_pos k_may, k_join]
  rfl
end Go.Proofs.YtdodkbpagbblmaaDoor
