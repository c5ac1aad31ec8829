/-
  Contract: (*spec.l5R).form where a form begins with two forms.
-/
import Derived.Test.YtkdiffpbljohkayL5FormT
namespace Go.Proofs.Ytkdiffpbljohkay.L5
open Go.RowKit L1 L4
set_option linter.unusedVariables false

set_option maxRecDepth 100000 in
set_option maxHeartbeats 8000000 in
theorem form_altY (n : Nat) (IH : FC n) (a : Sh) (k2 : Nat) (b : Sh) (k4 : Nat) (s : ByteArray) (k g : Nat) (d : Int) (w : World) (h : SB w g s k false) (hk : k ≤ s.size) (hs : s.size ≤ 120) (h0 : 0 ≤ d) (hd : d + n = 60) (hb : byt s k = 91) (he1 : prs s n (k + 1) = (some a, k2)) (hm : byt s k2 = 124) (he2 : prs s n (k2 + 1) = (some b, k4)) (hq : byt s k4 = 93) :
    Calls Try.prog 49 #[.pointer (some ⟨g, 0, none⟩), .int .i64 d] w fun e w' => FmP w g s (some (PP s (.alt a b) (k4 + 1)).1, (PP s (.alt a b) (k4 + 1)).2) e w' := by
  have hlt : k < s.size := byt_lt (by omega)
  have hb1 : byt s k = ((s[k]'hlt).toNat : Int) := bts_at s k hlt
  have hltI : (k : Int) < (s.size : Int) := by omega
  have hneI : ((k : Int) == (s.size : Int)) = false := by simp; omega
  have hd60 : ¬ 60 < d := by omega
  have c0 := h.s
  have c1 := h.k
  have c2 := h.o
  have f1 := h.frozen 1
  have hgl := h.lt
  have hk1 : k + 1 ≤ s.size := hlt
  have H := hide (SMv.refl h)
  have hin1 := prs_in s n (k + 1) hk1
  rw [he1] at hin1
  have hk2 : k2 ≤ s.size := hin1.2
  clear hin1
  have hk3 : k2 + 1 ≤ s.size := byt_lt (by omega)
  have hin2 := prs_in s n (k2 + 1) hk3
  rw [he2] at hin2
  have hk4 : k4 ≤ s.size := hin2.2
  clear hin2
  have C2 := hide (fun w h => IH.yes he2 g (d + 1) w h hk3 hs (by omega) (by omega))
  clear he2
  have T2 := hide (fun w h => stake_yes 93 s k4 g false w h hs (by decide) hq)
  have hk5 : k4 + 1 ≤ s.size := byt_lt (by omega)
  clear hq
  have T1 := hide (fun w h => stake_yes 124 s k2 g false w h hs (by decide) hm)
  clear hm
  obtain ⟨R, hR⟩ : ∃ R, R = PP s (.alt a b) (k4 + 1) := ⟨_, rfl⟩
  rw [← hR]
  have HR := hide hR.symm
  clear hR
  have hb2 := hb1.symm.trans hb
  have C1 := hide (fun w h => IH.yes he1 g (d + 1) w h hk1 hs (by omega) (by omega))
  clear h hb hb1 he1
  go_enter Try.func49, Try.ntmps49
  go_wp2
  go_quiet (fail)
  go_wp2
  go_quiet (fail)
  go_wp2_with fail
  refine (C1.out _ (((H.out.alloc _).drewN _).step.rb)).mono ?_
  rintro e w2 ⟨p2, rfl, m2, t2⟩
  have M2 := hide ((((H.out.alloc _).drewN _).step).trans m2)
  have r3 : ∀ ob, (w2.alloc ob).cell? ⟨g, 2, none⟩ = some (.bool false) := fun ob => (M2.out.alloc ob).rb.o
  have X3 := hide (XN.new 6 none hgl (((H.out.alloc _).drewN _).step).gr.size M2.out t2)
  clear m2 t2
  go_wp2_with fail
  refine (T1.out _ X3.out.mv.rb).mono ?_
  rintro e w3 ⟨rfl, m3⟩
  have X3b := hide (X3.out.move m3)
  have n3c := X3b.out.fx.at.b
  have n3 := X3b.out.fx.frozen 3
  have X4 := hide (X3b.out.setB (some ⟨w.heap.size, 0, none⟩))
  have r4 : (w3.setCell ⟨w2.heap.size, 3, none⟩ (.pointer (some ⟨w.heap.size, 0, none⟩))).cell? ⟨g, 2, none⟩ = some (.bool false) := X4.out.mv.rb.o
  clear m3 r3
  go_wp2_with fail
  refine (C2.out _ X4.out.mv.rb).mono ?_
  rintro e w5 ⟨p5, rfl, m5, t5⟩
  have X5 := hide (X4.out.move m5)
  have n5c := X5.out.fx.at.b
  have n5 := X5.out.fx.frozen 3
  have Y6 := hide (YN.new X4.out m5 t5)
  have r6 : (w5.setCell ⟨w2.heap.size, 3, none⟩ (.pointer p5)).cell? ⟨g, 2, none⟩ = some (.bool false) := Y6.out.x.mv.rb.o
  have hcv := conv_twoF (w5.setCell ⟨w2.heap.size, 3, none⟩ (.pointer p5)) w5.heap.size (by simp)
  have hcl := cell_twoF (w5.setCell ⟨w2.heap.size, 3, none⟩ (.pointer p5)) w5.heap.size (by simp)
  obtain ⟨hcl0, hcl1⟩ := hcl
  clear m5 t5 r4
  go_wp2_with fail
  refine (l5Bit_any _ _).mono ?_
  rintro e w6 ⟨rfl, rfl⟩
  go_wp2_with fail
  refine (T2.out _ (Y6.out.alloc _).x.mv.rb).mono ?_
  rintro e w7 ⟨rfl, m7⟩
  have Y7 := hide ((Y6.out.alloc _).move m7)
  clear m7
  go_wp2
  clear hk1
  have hk1 := hk5
  go_loopw [7] (fun v wr => ∃ (z : Sh) (j : Nat) (q : Option Addr), v = .pointer q ∧ j ≤ s.size ∧ PP s z j = R ∧ Hid (SMv w wr g s j false) ∧ Hid (Tr wr (Nw w) q z)) (fun _ wr => s.size - atOfS wr g)
  case atStart => exact ⟨(.alt a b), _, _, rfl, hk1, HR.out, hide (Y7.out.x.mv), hide (Y7.out.alt)⟩
  case round =>
    obtain ⟨z, j, q, rfl, hj, hpp, MJ, TJ⟩ := hrel
    have hat := at_ofS MJ.out.rb
    have d0 := MJ.out.rb.s
    have d1 := MJ.out.rb.k
    have d2 := MJ.out.rb.o
    have g1 := MJ.out.rb.frozen 1
    have hww : w.heap.size ≤ wr.heap.size := MJ.out.gr.size
    have dA : ∀ n ob, ((wr.drewN n).alloc ob).cell? ⟨g, 1, none⟩ = some (.int .i64 (j : Int)) := fun n ob => ((MJ.out.drewN n).alloc ob).rb.k
    have gA : ∀ n ob, ((wr.drewN n).alloc ob).frozen? ⟨g, 1, none⟩ = false := fun n ob => ((MJ.out.drewN n).alloc ob).rb.frozen 1
    by_cases q7 : byt s j = 42
    · have hjl : j < s.size := byt_lt (by omega)
      have e1 : byt s j = ((s[j]'hjl).toNat : Int) := bts_at s j hjl
      have e2 := e1.symm.trans q7
      have hjI : (j : Int) < (s.size : Int) := by omega
      have hpp2 := hide ((PP_star q7).symm.trans hpp)
      clear q7 e1 hpp
      go_wp2
      go_quiet (fail)
      go_wp2
      go_quiet (fail)
      go_wp2
      go_roundw
      case rel => exact ⟨.many z, j + 1, _, rfl, hjl, hpp2.out, hide ((MJ.out.drewN _).alloc _).step, hide ((tr_over (k := 7) (TJ.out.drewN _) hww (.inl ⟨rfl, rfl⟩)).setR hgl _)⟩
      case measure =>
        rw [at_ofS ((MJ.out.drewN _).alloc _).step.rb, hat]
        omega
    by_cases q8 : byt s j = 94
    · have hjl : j < s.size := byt_lt (by omega)
      have e1 : byt s j = ((s[j]'hjl).toNat : Int) := bts_at s j hjl
      have e2 := e1.symm.trans q8
      have hjI : (j : Int) < (s.size : Int) := by omega
      have hpp2 := hide ((PP_hat q8).symm.trans hpp)
      clear q7 q8 e1 hpp
      go_wp2
      go_quiet (fail)
      go_wp2
      go_quiet (fail)
      go_wp2
      go_roundw
      case rel => exact ⟨.inv z, j + 1, _, rfl, hjl, hpp2.out, hide ((MJ.out.drewN _).alloc _).step, hide ((tr_over (k := 8) (TJ.out.drewN _) hww (.inr ⟨rfl, rfl⟩)).setR hgl _)⟩
      case measure =>
        rw [at_ofS ((MJ.out.drewN _).alloc _).step.rb, hat]
        omega
    have hpp2 := (PP_stop q7 q8).symm.trans hpp
    subst hpp2
    by_cases hjl : j < s.size
    · have e1 : byt s j = ((s[j]'hjl).toNat : Int) := bts_at s j hjl
      obtain ⟨b, hbb⟩ : ∃ b, b = byt s j := ⟨_, rfl⟩
      rw [← hbb] at e1 q7 q8
      have e2 := e1.symm
      have hjI : (j : Int) < (s.size : Int) := by omega
      have r7 : (b == 42) = false := by simpa using q7
      have r8 : (b == 94) = false := by simpa using q8
      clear hbb e1 hpp
      go_wp2
      go_quiet (fail)
      go_wp2
      go_ret
      exact fmp_yes (MJ.out.drewN _) (TJ.out.drewN _)
    · have hjI : ¬ (j : Int) < (s.size : Int) := by omega
      clear q7 q8 hpp
      go_wp2
      go_quiet (fail)
      go_wp2
      go_ret
      exact fmp_yes (MJ.out.drewN _) (TJ.out.drewN _)
end Go.Proofs.Ytkdiffpbljohkay.L5
