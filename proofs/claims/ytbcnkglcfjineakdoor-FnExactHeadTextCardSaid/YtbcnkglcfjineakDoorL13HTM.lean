/-
  A head as a text. Nothing of the program's text is proved here.
-/
import Derived.Test.YtbcnkglcfjineakDoorL13SayM
import Derived.Test.YtbcnkglcfjineakDoorL13GMath
namespace Go.Proofs.YtbcnkglcfjineakDoor.L13
open Go.RowKit L1
set_option linter.unusedVariables false

theorem str_empty (a : ByteArray) : ByteArray.empty ++ a = a := by
  apply ByteArray.ext
  simp
theorem empty_str (a : ByteArray) : a ++ ByteArray.empty = a := by
  apply ByteArray.ext
  simp
theorem str_assoc (a b c : ByteArray) : (a ++ b) ++ c = a ++ (b ++ c) := by
  apply ByteArray.ext
  simp [ByteArray.data_append]
def lineT (nm : ByteArray) (p : Int × Int) : ByteArray := sayT nm p.1 p.2 ++ ⟨#[10]⟩
def linesT (nm : ByteArray) : List (Int × Int) → ByteArray
  | [] => ByteArray.empty
  | p :: l => lineT nm p ++ linesT nm l
theorem linesT_append (nm : ByteArray) : ∀ l m, linesT nm (l ++ m) = linesT nm l ++ linesT nm m
  | [], m => (str_empty _).symm
  | p :: l, m => by
    show lineT nm p ++ linesT nm (l ++ m) = (lineT nm p ++ linesT nm l) ++ linesT nm m
    rw [linesT_append nm l m, str_assoc]
theorem linesT_take (nm : ByteArray) (l : List (Int × Int)) (k : Nat) (hk : k < l.length) : linesT nm (l.take (k + 1)) = linesT nm (l.take k) ++ lineT nm (l.getD k (0, 0)) := by
  rw [List.take_succ_eq_append_getElem hk, linesT_append]
  congr 1
  simp [linesT, List.getD, List.getElem?_eq_getElem hk]
def rowsT : List Rw → ByteArray
  | [] => ByteArray.empty
  | r :: L => linesT r.nm r.l ++ rowsT L
theorem rowsT_append : ∀ l m, rowsT (l ++ m) = rowsT l ++ rowsT m
  | [], m => (str_empty _).symm
  | p :: l, m => by
    show linesT p.nm p.l ++ rowsT (l ++ m) = (linesT p.nm p.l ++ rowsT l) ++ rowsT m
    rw [rowsT_append l m, str_assoc]
theorem rowsT_take (L : List Rw) (k : Nat) (hk : k < L.length) : rowsT (L.take (k + 1)) = rowsT (L.take k) ++ linesT (gr L k).nm (gr L k).l := by
  rw [List.take_succ_eq_append_getElem hk, rowsT_append]
  congr 1
  simp [rowsT, gr, List.getD, List.getElem?_eq_getElem hk]
def headT (L : List Rw) (o : Int) : ByteArray := (numT o ++ ⟨#[10]⟩) ++ rowsT L
theorem one10 : (⟨#[10]⟩ : ByteArray).size = 1 := rfl
theorem sayT_sz {nm : ByteArray} {x y : Int} (hn : nm.size ≤ 8) (h : okS (x, y)) : (sayT nm x y).size ≤ 34 := by
  unfold okS at h
  simp only at h
  have h1 := numT_sz x (by omega) (by omega)
  have h2 := numT_sz y (by omega) (by omega)
  have h3 : (⟨#[32]⟩ : ByteArray).size = 1 := rfl
  unfold sayT
  simp only [ByteArray.size_append]
  omega
theorem lineT_sz {nm : ByteArray} {p : Int × Int} (hn : nm.size ≤ 8) (h : okS p) : (lineT nm p).size ≤ 35 := by
  have h1 := sayT_sz (x := p.1) (y := p.2) hn h
  unfold lineT
  rw [ByteArray.size_append, one10]
  omega
theorem linesT_sz {nm : ByteArray} {l : List (Int × Int)} (hn : nm.size ≤ 8) (h : ∀ j, j < l.length → okS (l.getD j (0, 0))) : ∀ k, k ≤ l.length → (linesT nm (l.take k)).size ≤ 35 * k
  | 0, _ => by simp [linesT]
  | k + 1, hk => by
    have h1 := linesT_sz hn h k (by omega)
    have h2 := lineT_sz hn (h k (by omega))
    rw [linesT_take nm l k (by omega), ByteArray.size_append]
    omega
theorem rowsT_sz {L : List Rw} {n : Nat} (h : UpTo L n) (hn : n ≤ L.length) : ∀ k, k ≤ n → (rowsT (L.take k)).size ≤ 1400 * k
  | 0, _ => by simp [rowsT]
  | k + 1, hk => by
    have h1 := rowsT_sz h hn k (by omega)
    have hg := (h k (by omega)).1
    have h2 := linesT_sz (nm := (gr L k).nm) (l := (gr L k).l) hg.1.1.2 (fun j hj => (hg.2.2.2 j hj).1) (gr L k).l.length (Nat.le_refl _)
    have h3 := hg.2.2.1
    rw [List.take_length] at h2
    rw [rowsT_take L k (by omega), ByteArray.size_append]
    omega
end Go.Proofs.YtbcnkglcfjineakDoor.L13
