/-
  Contract: spec.ReadForm.
-/
import Derived.Test.YtkdiffpbljohkayL5FormAll
import Derived.Test.YtkdiffpbljohkayL5ParseSz
import Derived.OwnWalk
namespace Go.Proofs.Ytkdiffpbljohkay.L5
open Go.RowKit L1 L4
set_option linter.unusedVariables false

theorem SB.newN (w : World) (s : ByteArray) : SB (w.alloc (.cells #[.string s, .int .i64 0, .bool false] 71)) w.heap.size s 0 false := by
  unfold SB
  show (w.heap.push _)[w.heap.size]? = _
  exact Array.getElem?_push_size
theorem smv_below {w w' : World} {o : Obj} {g k : Nat} {s : ByteArray} {q : Bool} (hg : g = w.heap.size) (h : SMv (w.alloc o) w' g s k q) : Below w.heap.size w w' := by
  subst hg
  exact ((Below.refl _ _).alloc (Nat.le_refl _) o).grown h.gr (by simp) (fun k hk => by cases hk; exact Nat.le_refl _)
theorem below_drewS {w w' : World} {N : Nat} (h : Below N w w') : ∀ q, Below N w (w'.drewN q)
  | 0 => h
  | q + 1 => (below_drewS h q).drew
theorem fmp_none {w w' : World} {g k : Nat} {s : ByteArray} {e : Ending} (h : FmP w g s (none, k) e w') : ∃ p, e = .returned (.pointer p) ∧ SMv w w' g s k true := by
  obtain ⟨p, h1, h2, _⟩ := h
  exact ⟨p, h1, h2⟩
theorem fmp_some {w w' : World} {g k : Nat} {s : ByteArray} {x : Sh} {e : Ending} (h : FmP w g s (some x, k) e w') : ∃ p, e = .returned (.pointer p) ∧ SMv w w' g s k false ∧ Tr w' (Nw w) p x := by
  obtain ⟨p, h1, h2, h3⟩ := h
  exact ⟨p, h1, h2, h3 x rfl⟩
set_option maxRecDepth 100000 in
set_option maxHeartbeats 4000000 in
theorem specReadForm_any (s : ByteArray) (w : World) (hs : s.size ≤ 1048576) (r : Option (List Pr) × Int) (hr : r = readRes s) :
    Calls Try.prog 23 #[.string s] w fun e w' => RetQ w r e w' := by
  unfold readRes at hr
  by_cases hbig : 120 < s.size
  · rw [if_pos hbig] at hr
    subst hr
    have hbigI : 120 < (s.size : Int) := by omega
    go_enter Try.func23, Try.ntmps23
    go_wp2
    go_ret3
    exact retQ_no (Below.refl _ _)
  rw [if_neg hbig] at hr
  have hbigI : ¬ 120 < (s.size : Int) := by omega
  have N0 := hide (SB.newN w s)
  have C1 := hide (fun g w h => form_any 61 s 0 g 0 w h (Nat.zero_le _) (by omega) (by omega) (by omega))
  have hin := prs_in s 61 0 (Nat.zero_le _)
  have hok := prs_ok s 61 0
  have hsz := prs_sz s 61 0
  rcases he : prs s 61 0 with ⟨x, k⟩
  rw [he] at hin hok hsz hr
  simp only [he] at C1
  have hk : k ≤ s.size := hin.2
  clear he hin
  cases x with
  | none =>
    subst hr
    clear hok hsz
    go_enter Try.func23, Try.ntmps23
    go_wp2_with fail
    refine (C1.out _ _ N0.out).mono ?_
    rintro e w2 h2
    obtain ⟨p2, rfl, m2⟩ := fmp_none h2
    have c1 := m2.rb.k
    have c2 := m2.rb.o
    have B2 := hide (smv_below rfl m2)
    clear h2 m2
    go_wp2
    go_quiet (fail)
    go_wp2
    go_ret3
    exact retQ_no (below_drewS B2.out _)
  | some x =>
    have hok := hok x rfl
    have hsz := hsz x rfl
    simp only at hr hsz
    have HOK := hide hok
    by_cases hlt : k < s.size
    · rw [if_pos hlt] at hr
      subst hr
      have hltI : (k : Int) < (s.size : Int) := by omega
      clear hok hsz
      go_enter Try.func23, Try.ntmps23
      go_wp2_with fail
      refine (C1.out _ _ N0.out).mono ?_
      rintro e w2 h2
      obtain ⟨p2, rfl, m2, t2⟩ := fmp_some h2
      have c1 := m2.rb.k
      have c2 := m2.rb.o
      have B2 := hide (smv_below rfl m2)
      clear h2 m2 t2
      go_wp2
      go_quiet (fail)
      go_wp2
      go_ret3
      exact retQ_no (below_drewS B2.out _)
    · rw [if_neg hlt] at hr
      have hltI : ¬ (k : Int) < (s.size : Int) := by omega
      have hlen := flat_len x []
      simp only [List.length_nil, Nat.zero_add] at hlen
      have C5 := hide (fun p base w t hb => l5Flat_any x (fun _ => True) p base (.slice none 0 0) [] w t (fun g _ e => by cases e) (World.ownsRow_nil _ _ _ _) hb (by simp; omega))
      obtain ⟨L, hL⟩ : ∃ L, L = flat x [] := ⟨_, rfl⟩
      simp only [← hL] at hlen hr C5
      have hL2 : (L.length : Int) ≤ 1000 := by omega
      have HR := hide hr
      clear hr hok hsz hlen hL
      go_enter Try.func23, Try.ntmps23
      go_wp2_with fail
      refine (C1.out _ _ N0.out).mono ?_
      rintro e w2 h2
      obtain ⟨p2, rfl, m2, t2⟩ := fmp_some h2
      have c1 := m2.rb.k
      have c2 := m2.rb.o
      have B2 := hide (smv_below rfl m2)
      have T2 := hide (t2.mono (S' := fun _ => True) (fun _ _ => trivial))
      clear h2 m2 t2
      go_wp2_with fail
      refine (C5.out _ w.heap.size _ T2.out B2.out.size).mono ?_
      rintro e w4 ⟨v4, rfl, o4, g4, k4⟩
      have B4 := hide (B2.out.grown g4 B2.out.size (fun k hk => by cases hk))
      have O4 := hide o4
      obtain ⟨x4, c4, rfl⟩ := own_shapeT o4
      clear o4 g4 k4 c1 c2
      by_cases h24 : 24 < (L.length : Int)
      · have HR2 : Hid (r = (none, (s.size : Int))) := hide (by rw [HR.out, if_pos (by omega)])
        go_wp2
        go_ret3
        rw [HR2.out]
        exact retQ_no B4.out
      · have HR2 : Hid (r = (some L, 0)) := hide (by rw [HR.out, if_neg (by omega)])
        go_wp2
        go_ret3
        rw [HR2.out]
        exact ⟨_, rfl, O4.out, B4.out⟩
end Go.Proofs.Ytkdiffpbljohkay.L5
