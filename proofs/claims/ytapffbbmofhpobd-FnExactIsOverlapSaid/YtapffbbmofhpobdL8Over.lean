/-
  Contracts: impl.isMajority, impl.IsOverlap, spec.IsOverlap: whether two majorities have a node in common.
-/
import Derived.Test.YtapffbbmofhpobdL8SRise
import Derived.Test.YtapffbbmofhpobdL8Maj
import Derived.Test.YtapffbbmofhpobdL4Meet
import Derived.Test.YtapffbbmofhpobdL4Has
namespace Go.Proofs.Ytapffbbmofhpobd.L8
open Go.RowKit L1 L4
set_option linter.unusedVariables false

/-- A list that is a majority. -/
def Maj (N m : Int) (l : List Int) : Prop := RN N l ∧ m ≤ (l.length : Int)

set_option maxRecDepth 100000 in
set_option maxHeartbeats 1000000 in
theorem isMajority_any (a : Option Addr) (l : List Int) (n cap : Nat) (N m : Int) (hm : MajP N m) (w : World) (hn : l.length = n) (hs : Sl w a l) (hn2 : n ≤ 1048576) (bb : Bool) (hbb : bb = true ↔ Maj N m l) :
    Calls Try.prog 25 #[.int .i64 N, .slice a n cap] w fun e w' => e = .returned (.bool bb) ∧ w = w' := by
  have HBB := hide hbb
  have M := hide (fun w => majority_any N m w hm)
  by_cases hr : RN N l
  · have C := hide (risingNodes_any a l n cap N w hn hs hn2 true (by simp [hr]))
    by_cases hle : m ≤ (n : Int)
    · have HB := hide (hbb.2 ⟨hr, by rw [hn]; exact hle⟩)
      clear hbb hr hs hn hm
      go_enter Try.func25, Try.ntmps25
      go_wp2_with fail
      refine C.out.mono ?_
      rintro e w1 ⟨rfl, rfl⟩
      go_wp2_with fail
      refine (M.out _).mono ?_
      rintro e w1 ⟨rfl, rfl⟩
      go_wp2
      go_ret
      exact ⟨by rw [HB.out]; rfl, rfl⟩
    · have HB := hide (bool_noT hbb (fun h => hle (by rw [← hn]; exact h.2)))
      have HD : Hid (decide (m ≤ (n : Int)) = false) := hide (by simpa using hle)
      clear hbb hr hs hn hm
      go_enter Try.func25, Try.ntmps25
      go_wp2_with fail
      refine C.out.mono ?_
      rintro e w1 ⟨rfl, rfl⟩
      go_wp2_with fail
      refine (M.out _).mono ?_
      rintro e w1 ⟨rfl, rfl⟩
      go_wp2
      go_ret
      exact ⟨by rw [HB.out, ← HD.out]; rfl, rfl⟩
  · have C := hide (risingNodes_any a l n cap N w hn hs hn2 false (by simp [hr]))
    have HB := hide (bool_noT hbb (fun h => hr h.1))
    clear hbb hr hs hn hm
    go_enter Try.func25, Try.ntmps25
    go_wp2_with fail
    refine C.out.mono ?_
    rintro e w1 ⟨rfl, rfl⟩
    go_wp2
    go_ret
    exact ⟨by rw [HB.out]; rfl, rfl⟩

/-- When two lists are told of. -/
def OvC (N : Int) (xs ys : List Int) : Prop := 1 ≤ N ∧ N ≤ 5 ∧ ∃ m, MajP N m ∧ Maj N m xs ∧ Maj N m ys

set_option maxRecDepth 100000 in
set_option maxHeartbeats 1000000 in
theorem isOverlap_any (N : Int) (a : Option Addr) (xs : List Int) (n cap : Nat) (b : Option Addr) (ys : List Int) (n2 cap2 : Nat) (w : World) (hn : xs.length = n) (hs : SlC w a n cap xs) (hn2 : n ≤ 1048576) (hm : ys.length = n2) (ht : SlC w b n2 cap2 ys) (hm2 : n2 ≤ 1048576) (r0 r1 : Bool) (hr1 : r1 = true ↔ OvC N xs ys) (hr0 : r0 = true ↔ OvC N xs ys ∧ ∃ x ∈ xs, x ∈ ys) :
    Calls Try.prog 8 #[.int .i64 N, .slice a n cap, .slice b n2 cap2] w fun e w' => e = .returned (.tuple #[.bool r0, .bool r1]) ∧ Below w.heap.size w w' := by
  by_cases h1 : N < 1
  · have hno : ¬ OvC N xs ys := fun h => by have := h.1; omega
    have H1 := hide (bool_noT hr1 hno)
    have H0 := hide (bool_noT hr0 (fun h => hno h.1))
    clear hr1 hr0 hno hn hs hm ht
    go_enter Try.func8, Try.ntmps8
    go_wp2
    go_ret2
    exact ⟨by rw [H1.out, H0.out]; rfl, Below.refl _ _⟩
  by_cases h2 : 5 < N
  · have hno : ¬ OvC N xs ys := fun h => by have := h.2.1; omega
    have H1 := hide (bool_noT hr1 hno)
    have H0 := hide (bool_noT hr0 (fun h => hno h.1))
    clear hr1 hr0 hno hn hs hm ht
    go_enter Try.func8, Try.ntmps8
    go_wp2
    go_ret2
    exact ⟨by rw [H1.out, H0.out]; rfl, Below.refl _ _⟩
  obtain ⟨m, hmj⟩ := majP_ex (N := N) (by omega) (by omega)
  have huniq : ∀ m', MajP N m' → m' = m := fun m' h' => by unfold MajP at hmj h'; omega
  by_cases h3 : Maj N m xs
  · have C3 := hide (isMajority_any a xs n cap N m hmj w hn hs.sl hn2 true (by simp [h3]))
    by_cases h4 : Maj N m ys
    · have C4 := hide (isMajority_any b ys n2 cap2 N m hmj w hm ht.sl hm2 true (by simp [h4]))
      have hov : OvC N xs ys := ⟨by omega, by omega, m, hmj, h3, h4⟩
      have H1 := hide (hr1.2 hov)
      have C5 := hide (meet_any a xs n cap b ys n2 cap2 w hn hs hn2 hm ht hm2 h3.1.rise h4.1.rise)
      have hlen : r0 = true ↔ 0 < (those ys true xs).length := by
        rw [hr0]
        constructor
        · rintro ⟨_, x, hx, hy⟩
          exact List.length_pos_of_mem (List.mem_filter.2 ⟨hx, by simp [hy]⟩)
        · intro h
          obtain ⟨x, hx⟩ := List.exists_mem_of_length_pos h
          have := List.mem_filter.1 hx
          exact ⟨hov, x, this.1, by simpa using this.2⟩
      obtain ⟨q, hq⟩ : ∃ q, q = (those ys true xs).length := ⟨_, rfl⟩
      rw [← hq] at hlen
      have hql : q ≤ 1048576 := by have := those_len xs ys true; omega
      have c5 := C5.out
      unfold RetN at c5
      rw [← hq] at c5
      have C6 := hide c5
      have HL := hide hlen
      clear c5 C5 hq hlen hr1 hr0 hov hn hs hm ht h3 h4 hmj huniq
      have HB : Hid (r0 = decide (0 < q)) := hide (by have := HL.out; cases r0 <;> simp at this ⊢ <;> omega)
      go_enter Try.func8, Try.ntmps8
      go_wp2_with fail
      refine C3.out.mono ?_
      rintro e w1 ⟨rfl, rfl⟩
      go_wp2_with fail
      refine C4.out.mono ?_
      rintro e w1 ⟨rfl, rfl⟩
      go_wp2_with fail
      refine C6.out.mono ?_
      rintro e w1 ⟨v, rfl, ho, hb⟩
      obtain ⟨va, vc, rfl⟩ := own_shapeT ho
      clear ho
      go_wp2
      go_ret2
      exact ⟨by rw [H1.out, HB.out]; rfl, hb⟩
    · have C4 := hide (isMajority_any b ys n2 cap2 N m hmj w hm ht.sl hm2 false (by simp [h4]))
      have hno : ¬ OvC N xs ys := fun h => by
        obtain ⟨_, _, m', hm', _, h'⟩ := h
        rw [huniq m' hm'] at h'
        exact h4 h'
      have H1 := hide (bool_noT hr1 hno)
      have H0 := hide (bool_noT hr0 (fun h => hno h.1))
      clear hr1 hr0 hno hn hs hm ht h3 h4 hmj huniq
      go_enter Try.func8, Try.ntmps8
      go_wp2_with fail
      refine C3.out.mono ?_
      rintro e w1 ⟨rfl, rfl⟩
      go_wp2_with fail
      refine C4.out.mono ?_
      rintro e w1 ⟨rfl, rfl⟩
      go_wp2
      go_ret2
      exact ⟨by rw [H1.out, H0.out]; rfl, Below.refl _ _⟩
  · have C3 := hide (isMajority_any a xs n cap N m hmj w hn hs.sl hn2 false (by simp [h3]))
    have hno : ¬ OvC N xs ys := fun h => by
      obtain ⟨_, _, m', hm', h', _⟩ := h
      rw [huniq m' hm'] at h'
      exact h3 h'
    have H1 := hide (bool_noT hr1 hno)
    have H0 := hide (bool_noT hr0 (fun h => hno h.1))
    clear hr1 hr0 hno hn hs hm ht h3 hmj huniq
    go_enter Try.func8, Try.ntmps8
    go_wp2_with fail
    refine C3.out.mono ?_
    rintro e w1 ⟨rfl, rfl⟩
    go_wp2
    go_ret2
    exact ⟨by rw [H1.out, H0.out]; rfl, Below.refl _ _⟩
end Go.Proofs.Ytapffbbmofhpobd.L8
