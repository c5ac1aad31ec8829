/-
  Contract: impl.readDecimal reads a number.
-/
import Derived.Test.YtbcnkglcfjineakDoorL13RdI
import Derived.Test.YtbcnkglcfjineakDoorL13Itoa
import Derived.Test.YtbcnkglcfjineakDoorL13Atoi
import Derived.Lib.AtoiErrMem
import Derived.Below
namespace Go.Proofs.YtbcnkglcfjineakDoor.L13
open Go.RowKit L1
set_option linter.unusedVariables false

/-- A variable of an interface's type holds some value of it. -/
def ErrAt (g : Nat) (w : World) : Prop := ∃ ev, w.cell? ⟨g, 0, none⟩ = some ev ∧ (ev = .nilIface ∨ ∃ te pe, ev = .iface te pe)
theorem ErrAt.below {g : Nat} {w w' : World} (h : ErrAt g w) (hb : Below w.heap.size w w') : ErrAt g w' := by
  obtain ⟨ev, h1, h2⟩ := h
  have hlt : g < w.heap.size := by
    rcases Nat.lt_or_ge g w.heap.size with h' | h'
    · exact h'
    · simp [World.cell?, Array.getElem?_eq_none h'] at h1
  refine ⟨ev, ?_, h2⟩
  rw [← h1]
  simp only [World.cell?, hb.block g hlt]
/-- What the library's readers and writers of numbers lean on. -/
structure Lib13 (w : World) : Prop where
  tab : Pow10 w
  syn : ErrAt 1 w
  ran : ErrAt 2 w
theorem Lib13.below {w w' : World} (h : Lib13 w) (hb : Below w.heap.size w w') : Lib13 w' := ⟨h.tab.below hb, h.syn.below hb, h.ran.below hb⟩
theorem atoi_range {l : List UInt8} {v : Int} (h : Lib.atoiAll l = .ok v) : -9223372036854775808 ≤ v ∧ v ≤ 9223372036854775807 := by
  unfold Lib.atoiAll at h
  split at h
  · cases h
  · rename_i c r
    simp only at h
    generalize Lib.parseMag (if c.toNat = 43 ∨ c.toNat = 45 then r else c :: r) = q at h
    cases q with
    | «syntax» => cases h
    | range => cases h
    | ok u =>
      simp only at h
      by_cases h45 : c.toNat = 45
      · simp only [h45, not_true_eq_false, false_and, if_false, true_and, if_true] at h
        split at h
        · cases h
        · injection h with h; omega
      · simp only [h45, not_false_eq_true, true_and, false_and, if_false] at h
        split at h
        · cases h
        · injection h with h; omega
/-- What Atoi ends with. -/
inductive AtoiEnd (s : ByteArray) (w : World) (e : Ending) (w' : World) : Prop
  | ok (v : Int) (he : e = .returned (.tuple #[.int .i64 v, .nilIface])) (hv : Lib.atoiAll s.data.toList = .ok v) (hb : Below w.heap.size w w')
  | bad (v : Int) (t : TypeId) (p : Value) (he : e = .returned (.tuple #[.int .i64 v, .iface t p])) (hv : ∀ v, Lib.atoiAll s.data.toList ≠ .ok v) (hb : Below w.heap.size w w')
theorem atoi_any (s : ByteArray) (w : World) (hs : s.size ≤ 1048576) (hl : Lib13 w) :
    Calls Tryd.prog 54 #[.string s] w (AtoiEnd s w) := by
  cases h : Lib.atoiAll s.data.toList with
  | ok v =>
    refine (sh_strconv_Atoi_ok s (by omega) v h w).mono ?_
    rintro e w' ⟨rfl, rfl | ⟨t, rfl⟩⟩
    · exact .ok v rfl h (Below.refl _ _)
    · exact .ok v rfl h (Lib.bytesWorld_below _ _ _)
  | «syntax» =>
    obtain ⟨ev, h1, h2⟩ := hl.syn
    refine (sh_strconv_Atoi_syntax s (by omega) h ev w h1 h2).mono ?_
    rintro e w' ⟨N, rfl, _, _, hb⟩
    exact .bad _ _ _ rfl (fun v hv => by rw [h] at hv; cases hv) hb
  | range =>
    obtain ⟨ev, h1, h2⟩ := hl.ran
    refine (sh_strconv_Atoi_range s (by omega) h ev w h1 h2).mono ?_
    rintro e w' ⟨N, rfl, _, _, hb⟩
    exact .bad _ _ _ rfl (fun v hv => by rw [h] at hv; cases hv) hb
theorem isRd_atoi {s : ByteArray} {v : Int} (h : Lib.atoiAll s.data.toList = .ok v) (b : Bool) (hb : b = true ↔ numT v = s) (u : Int) (hu : b = true → u = v) : IsRd s u b := by
  refine ⟨fun e => by rw [hu e]; exact (hb.1 e).symm, fun m h1 h2 e => ?_⟩
  have h3 := atoi_num m h1 h2
  rw [← numT_data, ← e, h] at h3
  injection h3 with h3
  have h4 := hb.2 (by rw [h3, e])
  exact ⟨h4, by rw [hu h4, h3]⟩
theorem isRd_bad {s : ByteArray} (h : ∀ v, Lib.atoiAll s.data.toList ≠ .ok v) : IsRd s 0 false :=
  isRd_none fun m h1 h2 e => h m (by
    have h3 := atoi_num m h1 h2
    rw [← numT_data, ← e] at h3
    exact h3)
end Go.Proofs.YtbcnkglcfjineakDoor.L13
