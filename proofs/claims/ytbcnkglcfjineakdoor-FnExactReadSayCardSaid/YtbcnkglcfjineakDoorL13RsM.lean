/-
  What a say's text is read as. Nothing of the program's text is proved here but the library's Cut.
-/
import Derived.Test.YtbcnkglcfjineakDoorL13RdE
import Derived.Test.YtbcnkglcfjineakDoorL13Say
import Derived.Test.YtbcnkglcfjineakDoorL3IndexC
namespace Go.Proofs.YtbcnkglcfjineakDoor.L13
open Go.RowKit L1
set_option linter.unusedVariables false

/-- What a text is read as: a good say that is written so, or none. -/
structure IsSay (s nm : ByteArray) (x y : Int) (ok : Bool) : Prop where
  yes : ok = true → okSay nm x y ∧ s = sayT nm x y
  all : ∀ a b c, okSay a b c → s = sayT a b c → ok = true ∧ nm = a ∧ x = b ∧ y = c
theorem isSay_none {s nm : ByteArray} {x y : Int} (h : ∀ a b c, okSay a b c → s ≠ sayT a b c) : IsSay s nm x y false :=
  ⟨fun h => absurd h (by simp), fun a b c h1 h2 => absurd h2 (h a b c h1)⟩
theorem IsSay.none {s nm n2 : ByteArray} {x y x2 y2 : Int} (h : IsSay s nm x y false) : IsSay s n2 x2 y2 false :=
  isSay_none fun a b c h1 h2 => by have := (h.all a b c h1 h2).1; simp at this
theorem isSay_same {s n1 n2 : ByteArray} {x1 y1 x2 y2 : Int} {o1 o2 : Bool} (h1 : IsSay s n1 x1 y1 o1) (h2 : IsSay s n2 x2 y2 o2) : o1 = o2 ∧ (o1 = true → n2 = n1 ∧ x2 = x1 ∧ y2 = y1) := by
  cases o1 with
  | true =>
    obtain ⟨a, b⟩ := h1.yes rfl
    obtain ⟨c, d⟩ := h2.all _ _ _ a b
    exact ⟨c.symm, fun _ => d⟩
  | false =>
    cases o2 with
    | false => exact ⟨rfl, fun h => absurd h (by simp)⟩
    | true =>
      obtain ⟨a, b⟩ := h2.yes rfl
      have := (h1.all _ _ _ a b).1
      simp at this
theorem isSay_parts {s a b d : ByteArray} {x y : Int} {o1 o2 ok : Bool} (hp : L3.parts 32 s = [a, b, d]) (h1 : IsRd b x o1) (h2 : IsRd d y o2) (hok : ok = true ↔ o1 = true ∧ o2 = true ∧ okSay a x y) : IsSay s a x y ok := by
  refine ⟨fun e => ?_, fun n x' y' h e => ?_⟩
  · obtain ⟨e1, e2, e3⟩ := hok.1 e
    refine ⟨e3, ?_⟩
    rw [three_join hp, h1.yes e1, h2.yes e2]
    rfl
  · have hq := say_parts (x := x') (y := y') h.1
    rw [← e, hp] at hq
    simp only [List.cons.injEq, and_true] at hq
    obtain ⟨rfl, q1, q2⟩ := hq
    obtain ⟨o1', hx0, hx1, hy0, hy1⟩ := h
    obtain ⟨e1, rfl⟩ := h1.all x' (by have := hx0; simp only at this; omega) (by have := hx1; simp only at this; omega) q1
    obtain ⟨e2, rfl⟩ := h2.all y' (by have := hy0; simp only at this; omega) (by have := hy1; simp only at this; omega) q2
    exact ⟨hok.2 ⟨e1, e2, o1', hx0, hx1, hy0, hy1⟩, rfl, rfl, rfl⟩
theorem isSay_len {s : ByteArray} (h : (L3.parts 32 s).length ≠ 3) : IsSay s ByteArray.empty 0 0 false :=
  isSay_none fun a b c h1 e => h (by rw [e, say_parts h1.1]; rfl)
/-- A text cut at its first space. -/
def cutP (s : ByteArray) : ByteArray × ByteArray :=
  if Lib.indexByte s.data.toList 32 = -1 then (s, ByteArray.empty) else (s.extract 0 (Lib.indexByte s.data.toList 32).toNat, s.extract ((Lib.indexByte s.data.toList 32).toNat + 1) s.size)
theorem cutP_le (s : ByteArray) : (cutP s).1.size ≤ s.size ∧ (cutP s).2.size ≤ s.size := by
  unfold cutP
  split
  · exact ⟨Nat.le_refl _, Nat.zero_le _⟩
  · simp only [ByteArray.size_extract]
    omega
theorem cut_lib (s : ByteArray) (w : World) (hs : s.size ≤ 1048576) :
    Calls Tryd.prog 28 #[.string s, .string ⟨#[32]⟩] w fun e w' => ∃ f, e = .returned (.tuple #[.string (cutP s).1, .string (cutP s).2, .bool f]) ∧ Below w.heap.size w w' := by
  unfold cutP
  rcases L3.idx_cases s 32 with h | ⟨i, h, hi⟩
  · rw [if_pos h]
    refine (L3.cut_miss s 32 w h).mono ?_
    rintro e w' ⟨rfl, rfl⟩
    exact ⟨_, rfl, Below.refl _ _⟩
  · rw [if_neg (by rw [h]; omega), h]
    refine (L3.cut_hit s 32 w i h hi (by omega)).mono ?_
    rintro e w' ⟨rfl, rfl⟩
    exact ⟨_, rfl, (Below.refl _ _).drew⟩
theorem cutP_join (s a r : ByteArray) (hs : s.data.toList = a.data.toList ++ 32 :: r.data.toList) (ha : (32 : UInt8) ∉ a.data.toList) : cutP s = (a, r) := by
  have hn : Lib.indexByte s.data.toList 32 = (a.size : Int) := by
    have hge := Lib.indexByte_ge s.data.toList 32
    by_cases h : Lib.indexByte s.data.toList 32 = -1
    · exfalso
      have := Lib.indexByte_none h a.data.toList.length
      rw [hs] at this
      simp at this
    · obtain ⟨i, hi⟩ : ∃ i : Nat, Lib.indexByte s.data.toList 32 = i := ⟨(Lib.indexByte s.data.toList 32).toNat, by omega⟩
      obtain ⟨h1, h2⟩ := Lib.indexByte_some hi
      rw [hi, Lib.size_eq]
      rcases Nat.lt_trichotomy i a.data.toList.length with h3 | h3 | h3
      · exfalso
        rw [hs, List.getElem?_append_left h3] at h1
        exact ha (List.mem_of_getElem? h1)
      · rw [h3]
      · exfalso
        have := h2 _ h3
        rw [hs] at this
        simp at this
  have hsz : s.size = a.size + 1 + r.size := by
    rw [Lib.size_eq, Lib.size_eq, Lib.size_eq, hs, List.length_append, List.length_cons]
    omega
  unfold cutP
  rw [if_neg (by rw [hn]; omega), hn]
  simp only [Int.toNat_natCast, Prod.mk.injEq]
  constructor
  · apply ba_ext
    rw [ByteArray.data_extract, Array.toList_extract, hs, Lib.size_eq]
    simp [List.extract]
  · apply ba_ext
    rw [ByteArray.data_extract, Array.toList_extract, hs, Lib.size_eq, Lib.size_eq, hs]
    simp only [List.extract]
    rw [List.drop_append]
    simp
    rw [List.drop_eq_nil_of_le (by rw [← Lib.size_eq]; omega), List.nil_append]
    exact List.take_of_length_le (by rw [← Lib.size_eq]; omega)
theorem cutP_parts (s : ByteArray) (h : (cutP s).2.size ≠ 0) : s = ((cutP s).1 ++ ⟨#[32]⟩) ++ (cutP s).2 := by
  rcases L3.idx_cases s 32 with h1 | ⟨i, h1, hi⟩
  · exfalso
    apply h
    unfold cutP
    rw [if_pos h1]
    rfl
  · have h2 := (Lib.indexByte_some h1).1
    unfold cutP
    rw [if_neg (by rw [h1]; omega), h1]
    apply ba_ext
    have hil : i < s.data.toList.length := by rw [← Lib.size_eq]; exact hi
    rw [List.getElem?_eq_getElem hil] at h2
    simp only [Option.some.injEq] at h2
    simp only [ByteArray.data_append, Array.toList_append, ByteArray.data_extract, Array.toList_extract, Int.toNat_natCast, List.extract]
    rw [Lib.size_eq]
    have e1 : List.take (s.data.toList.length - (i + 1)) (List.drop (i + 1) s.data.toList) = List.drop (i + 1) s.data.toList := List.take_of_length_le (by rw [List.length_drop]; omega)
    rw [e1]
    have e2 := List.take_append_drop i s.data.toList
    rw [List.drop_eq_getElem_cons hil, h2] at e2
    simp only [List.drop_zero, Nat.sub_zero]
    rw [List.append_assoc]
    exact e2.symm
theorem isSay_cut {s : ByteArray} {x y : Int} {o1 o2 ok : Bool} (h1 : IsRd (cutP (cutP s).2).1 x o1) (h2 : IsRd (cutP (cutP s).2).2 y o2) (hok : ok = true ↔ o1 = true ∧ o2 = true ∧ okSay (cutP s).1 x y) : IsSay s (cutP s).1 x y ok := by
  refine ⟨fun e => ?_, fun n x' y' h e => ?_⟩
  · obtain ⟨e1, e2, e3⟩ := hok.1 e
    refine ⟨e3, ?_⟩
    have k1 := h1.yes e1
    have k2 := h2.yes e2
    have n2 : (cutP (cutP s).2).2.size ≠ 0 := by rw [k2]; exact num_ne y
    have j2 := cutP_parts _ n2
    have n1 : (cutP s).2.size ≠ 0 := by
      rw [j2]
      simp only [ByteArray.size_append]
      omega
    have j1 := cutP_parts s n1
    rw [k1, k2] at j2
    rw [j2] at j1
    unfold sayT
    refine j1.trans ?_
    apply ba_ext
    simp only [ByteArray.data_append, Array.toList_append, List.append_assoc]
  · have hd := say_data n x' y'
    rw [← e] at hd
    have hx := num_free x' 32 (by decide)
    have hw := word_free h.1 32 (by decide)
    have c1 := cutP_join s n (((numT x') ++ ⟨#[32]⟩) ++ numT y') (by rw [hd]; simp) hw
    have c2 := cutP_join (((numT x') ++ ⟨#[32]⟩) ++ numT y') (numT x') (numT y') (by simp) hx
    rw [c1] at h1 h2 hok ⊢
    simp only at h1 h2 hok ⊢
    rw [c2] at h1 h2
    simp only at h1 h2
    obtain ⟨o1', hx0, hx1, hy0, hy1⟩ := h
    obtain ⟨e1, rfl⟩ := h1.all x' (by have := hx0; simp only at this; omega) (by have := hx1; simp only at this; omega) rfl
    obtain ⟨e2, rfl⟩ := h2.all y' (by have := hy0; simp only at this; omega) (by have := hy1; simp only at this; omega) rfl
    exact ⟨hok.2 ⟨e1, e2, o1', hx0, hx1, hy0, hy1⟩, by simp⟩
/-- What ReadSay ends with, on both sides. -/
inductive SayEnd (s : ByteArray) (w : World) (e : Ending) (w' : World) : Prop
  | mk (nm : ByteArray) (x y : Int) (ok : Bool) (he : e = .returned (.tuple #[.agg #[.string nm, .int .i64 x, .int .i64 y], .bool ok])) (hr : IsSay s nm x y ok) (hz : ok = false → nm = ByteArray.empty ∧ x = 0 ∧ y = 0) (hb : Below w.heap.size w w')
/-- .. and spec.l13Read. -/
inductive ReadEnd (s : ByteArray) (w : World) (e : Ending) (w' : World) : Prop
  | mk (nm : ByteArray) (x y : Int) (ok : Bool) (he : e = .returned (.tuple #[.agg #[.string nm, .int .i64 x, .int .i64 y], .bool ok])) (hr : IsSay s nm x y ok) (hb : Below w.heap.size w w')
end Go.Proofs.YtbcnkglcfjineakDoor.L13
