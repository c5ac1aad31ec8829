/-
  Contract: (*spec.l5R).form where a form begins with nothing that a form may begin with.
-/
import Derived.Test.YtkdiffpbljohkayL5FormB
namespace Go.Proofs.Ytkdiffpbljohkay.L5
open Go.RowKit L1 L4
set_option linter.unusedVariables false

set_option maxRecDepth 100000 in
set_option maxHeartbeats 8000000 in
theorem form_end (s : ByteArray) (k g : Nat) (d : Int) (w : World) (h : SB w g s k false) (hs : s.size ≤ 120) (hk : k = s.size) :
    Calls Try.prog 49 #[.pointer (some ⟨g, 0, none⟩), .int .i64 d] w fun e w' => FmP w g s (none, k) e w' := by
  obtain rfl := hk
  have c0 := h.s
  have c1 := h.k
  have c2 := h.o
  have f2 := h.frozen 2
  have hgl := h.lt
  have H := hide (SMv.refl h)
  clear h
  go_enter Try.func49, Try.ntmps49
  go_wp2
  go_quiet (fail)
  go_wp2
  go_ret
  exact fmp_no (((H.out.alloc _).drewN _).setO true)
set_option maxRecDepth 100000 in
set_option maxHeartbeats 8000000 in
theorem form_deep (s : ByteArray) (k g : Nat) (d : Int) (w : World) (h : SB w g s k false) (hs : s.size ≤ 120) (hlt : k < s.size) (hd : 60 < d) :
    Calls Try.prog 49 #[.pointer (some ⟨g, 0, none⟩), .int .i64 d] w fun e w' => FmP w g s (none, k) e w' := by
  have hltI : (k : Int) < (s.size : Int) := by omega
  have hneI : ((k : Int) == (s.size : Int)) = false := by simp; omega
  have c0 := h.s
  have c1 := h.k
  have c2 := h.o
  have f2 := h.frozen 2
  have hgl := h.lt
  have H := hide (SMv.refl h)
  clear h
  go_enter Try.func49, Try.ntmps49
  go_wp2
  go_quiet (fail)
  go_wp2
  go_ret
  exact fmp_no (((H.out.alloc _).drewN _).setO true)
set_option maxRecDepth 100000 in
set_option maxHeartbeats 8000000 in
theorem form_bad (s : ByteArray) (k g : Nat) (d : Int) (w : World) (h : SB w g s k false) (hs : s.size ≤ 120) (hlt : k < s.size) (hd : ¬ 60 < d) (q1 : byt s k ≠ 33) (q2 : byt s k ≠ 37) (q3 : byt s k ≠ 46) (q4 : byt s k ≠ 40) (q5 : byt s k ≠ 91) (q6 : ¬ (97 ≤ byt s k ∧ byt s k ≤ 122)) :
    Calls Try.prog 49 #[.pointer (some ⟨g, 0, none⟩), .int .i64 d] w fun e w' => FmP w g s (none, k) e w' := by
  have hb1 : byt s k = ((s[k]'hlt).toNat : Int) := bts_at s k hlt
  have hltI : (k : Int) < (s.size : Int) := by omega
  have hneI : ((k : Int) == (s.size : Int)) = false := by simp; omega
  obtain ⟨b, hbb⟩ : ∃ b, b = byt s k := ⟨_, rfl⟩
  rw [← hbb] at hb1 q1 q2 q3 q4 q5 q6
  have hb2 := hb1.symm
  have e1 : (b == 33) = false := by simpa using q1
  have e2 : (b == 37) = false := by simpa using q2
  have e3 : (b == 46) = false := by simpa using q3
  have e4 : (b == 40) = false := by simpa using q4
  have e5 : (b == 91) = false := by simpa using q5
  have c0 := h.s
  have c1 := h.k
  have c2 := h.o
  have f2 := h.frozen 2
  have hgl := h.lt
  have H := hide (SMv.refl h)
  clear h hbb hb1
  by_cases e6 : 97 ≤ b
  · have e7 : ¬ b ≤ 122 := fun x => q6 ⟨e6, x⟩
    clear q6 q1 q2 q3 q4 q5
    go_enter Try.func49, Try.ntmps49
    go_wp2
    go_quiet (fail)
    go_wp2
    go_quiet (fail)
    go_wp2
    go_loopw [7] (fun v wr => ∃ (q : Option Addr), v = .pointer q ∧ Hid (SMv w wr g s k true)) (fun _ _ => 0)
    case atStart => exact ⟨_, rfl, hide (((H.out.alloc _).drewN _).setO true)⟩
    case round =>
      obtain ⟨q, rfl, MJ⟩ := hrel
      have d2 := MJ.out.rb.o
      go_wp2
      go_quiet (fail)
      go_wp2
      go_ret
      exact fmp_no (MJ.out.drewN _)
  · clear q6 q1 q2 q3 q4 q5
    go_enter Try.func49, Try.ntmps49
    go_wp2
    go_quiet (fail)
    go_wp2
    go_quiet (fail)
    go_wp2
    go_loopw [7] (fun v wr => ∃ (q : Option Addr), v = .pointer q ∧ Hid (SMv w wr g s k true)) (fun _ _ => 0)
    case atStart => exact ⟨_, rfl, hide (((H.out.alloc _).drewN _).setO true)⟩
    case round =>
      obtain ⟨q, rfl, MJ⟩ := hrel
      have d2 := MJ.out.rb.o
      go_wp2
      go_quiet (fail)
      go_wp2
      go_ret
      exact fmp_no (MJ.out.drewN _)
end Go.Proofs.Ytkdiffpbljohkay.L5
