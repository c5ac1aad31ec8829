/-
  Contract: (*spec.l5R).form where a form begins with the mark of the empty text.
-/
import Derived.Test.YtkdiffpbljohkayL5FormB
namespace Go.Proofs.Ytkdiffpbljohkay.L5
open Go.RowKit L1 L4
set_option linter.unusedVariables false

set_option maxRecDepth 100000 in
set_option maxHeartbeats 8000000 in
theorem form_empty (n : Nat) (s : ByteArray) (k g : Nat) (d : Int) (w : World) (h : SB w g s k false) (hk : k ≤ s.size) (hs : s.size ≤ 120) (h0 : 0 ≤ d) (hd : d + n = 60) (hb : byt s k = 37) :
    Calls Try.prog 49 #[.pointer (some ⟨g, 0, none⟩), .int .i64 d] w fun e w' => FmP w g s (some (PP s .empty (k + 1)).1, (PP s .empty (k + 1)).2) e w' := by
  have hlt : k < s.size := byt_lt (by omega)
  have hb1 : byt s k = ((s[k]'hlt).toNat : Int) := bts_at s k hlt
  have hltI : (k : Int) < (s.size : Int) := by omega
  have hneI : ((k : Int) == (s.size : Int)) = false := by simp; omega
  have hd60 : ¬ 60 < d := by omega
  have c0 := h.s
  have c1 := h.k
  have c2 := h.o
  have f1 := h.frozen 1
  have hgl := h.lt
  have hk1 : k + 1 ≤ s.size := hlt
  have H := hide (SMv.refl h)
  have hb2 := hb1.symm.trans hb
  obtain ⟨R, hR⟩ : ∃ R, R = PP s .empty (k + 1) := ⟨_, rfl⟩
  rw [← hR]
  have HR := hide hR.symm
  clear h hb hb1 hR
  have cA : ∀ n ob oc, (((w.alloc oc).drewN n).alloc ob).cell? ⟨g, 1, none⟩ = some (.int .i64 (k : Int)) := fun n ob oc => (((H.out.alloc oc).drewN n).alloc ob).rb.k
  have fA : ∀ n ob oc, (((w.alloc oc).drewN n).alloc ob).frozen? ⟨g, 1, none⟩ = false := fun n ob oc => (((H.out.alloc oc).drewN n).alloc ob).rb.frozen 1
  go_enter Try.func49, Try.ntmps49
  go_wp2
  go_quiet (fail)
  go_wp2
  go_quiet (fail)
  go_wp2
  go_loopw [7] (fun v wr => ∃ (z : Sh) (j : Nat) (q : Option Addr), v = .pointer q ∧ j ≤ s.size ∧ PP s z j = R ∧ Hid (SMv w wr g s j false) ∧ Hid (Tr wr (Nw w) q z)) (fun _ wr => s.size - atOfS wr g)
  case atStart => exact ⟨.empty, _, _, rfl, hk1, HR.out, hide (((H.out.alloc _).drewN _).step.alloc _), hide (show Tr _ (Nw w) _ .empty from ⟨w.heap.size + 1, none, none, rfl, Nat.le_succ _, (FB.newAt _ (w.heap.size + 1) 2 ByteArray.empty none none (by simp)).at⟩)⟩
  case round =>
    obtain ⟨z, j, q, rfl, hj, hpp, MJ, TJ⟩ := hrel
    have hat := at_ofS MJ.out.rb
    have d0 := MJ.out.rb.s
    have d1 := MJ.out.rb.k
    have d2 := MJ.out.rb.o
    have g1 := MJ.out.rb.frozen 1
    have hww : w.heap.size ≤ wr.heap.size := MJ.out.gr.size
    have dA : ∀ n ob, ((wr.drewN n).alloc ob).cell? ⟨g, 1, none⟩ = some (.int .i64 (j : Int)) := fun n ob => ((MJ.out.drewN n).alloc ob).rb.k
    have gA : ∀ n ob, ((wr.drewN n).alloc ob).frozen? ⟨g, 1, none⟩ = false := fun n ob => ((MJ.out.drewN n).alloc ob).rb.frozen 1
    by_cases q7 : byt s j = 42
    · have hjl : j < s.size := byt_lt (by omega)
      have e1 : byt s j = ((s[j]'hjl).toNat : Int) := bts_at s j hjl
      have e2 := e1.symm.trans q7
      have hjI : (j : Int) < (s.size : Int) := by omega
      have hpp2 := hide ((PP_star q7).symm.trans hpp)
      clear q7 e1 hpp
      go_wp2
      go_quiet (fail)
      go_wp2
      go_quiet (fail)
      go_wp2
      go_roundw
      case rel => exact ⟨.many z, j + 1, _, rfl, hjl, hpp2.out, hide ((MJ.out.drewN _).alloc _).step, hide ((tr_over (k := 7) (TJ.out.drewN _) hww (.inl ⟨rfl, rfl⟩)).setR hgl _)⟩
      case measure =>
        rw [at_ofS ((MJ.out.drewN _).alloc _).step.rb, hat]
        omega
    by_cases q8 : byt s j = 94
    · have hjl : j < s.size := byt_lt (by omega)
      have e1 : byt s j = ((s[j]'hjl).toNat : Int) := bts_at s j hjl
      have e2 := e1.symm.trans q8
      have hjI : (j : Int) < (s.size : Int) := by omega
      have hpp2 := hide ((PP_hat q8).symm.trans hpp)
      clear q7 q8 e1 hpp
      go_wp2
      go_quiet (fail)
      go_wp2
      go_quiet (fail)
      go_wp2
      go_roundw
      case rel => exact ⟨.inv z, j + 1, _, rfl, hjl, hpp2.out, hide ((MJ.out.drewN _).alloc _).step, hide ((tr_over (k := 8) (TJ.out.drewN _) hww (.inr ⟨rfl, rfl⟩)).setR hgl _)⟩
      case measure =>
        rw [at_ofS ((MJ.out.drewN _).alloc _).step.rb, hat]
        omega
    have hpp2 := (PP_stop q7 q8).symm.trans hpp
    subst hpp2
    by_cases hjl : j < s.size
    · have e1 : byt s j = ((s[j]'hjl).toNat : Int) := bts_at s j hjl
      obtain ⟨b, hbb⟩ : ∃ b, b = byt s j := ⟨_, rfl⟩
      rw [← hbb] at e1 q7 q8
      have e2 := e1.symm
      have hjI : (j : Int) < (s.size : Int) := by omega
      have r7 : (b == 42) = false := by simpa using q7
      have r8 : (b == 94) = false := by simpa using q8
      clear hbb e1 hpp
      go_wp2
      go_quiet (fail)
      go_wp2
      go_ret
      exact fmp_yes (MJ.out.drewN _) (TJ.out.drewN _)
    · have hjI : ¬ (j : Int) < (s.size : Int) := by omega
      clear q7 q8 hpp
      go_wp2
      go_quiet (fail)
      go_wp2
      go_ret
      exact fmp_yes (MJ.out.drewN _) (TJ.out.drewN _)
end Go.Proofs.Ytkdiffpbljohkay.L5
