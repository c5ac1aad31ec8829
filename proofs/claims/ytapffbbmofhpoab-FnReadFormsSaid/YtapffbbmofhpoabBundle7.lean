/-
  Contract: (*spec.l5R).form where a form begins with two forms.
  Contract: (*spec.l5R).form where a form begins with two forms.
  Contract: (*spec.l5R).form where a form begins with two forms.
  Contract: (*spec.l5R).form where a form begins with two forms.
  Contract: (*spec.l5R).form where a form begins with two forms.
  Contract: (*spec.l5R).form where a form begins with two forms.
  Contract: (*spec.l5R).form reads a form as the parser reads it.
  Contract: spec.ReadForm.
-/
import Derived.Test.YtapffbbmofhpoabBundle6
import Derived.Test.YtapffbbmofhpoabBundle3
import Derived.OwnWalk
namespace Go.Proofs.Ytapffbbmofhpoab.L5
open Go.RowKit L1 L4
set_option linter.unusedVariables false

set_option maxRecDepth 100000 in
set_option maxHeartbeats 8000000 in
theorem form_seq1 (n : Nat) (IH : FC n) (k2 : Nat) (s : ByteArray) (k g : Nat) (d : Int) (w : World) (h : SB w g s k false) (hk : k ≤ s.size) (hs : s.size ≤ 120) (h0 : 0 ≤ d) (hd : d + n = 60) (hb : byt s k = 40) (he1 : prs s n (k + 1) = (none, k2)) :
    Calls Try.prog 106 #[.pointer (some ⟨g, 0, none⟩), .int .i64 d] w fun e w' => FmP w g s (none, k2) e w' := by
  have hlt : k < s.size := byt_lt (by omega)
  have hb1 : byt s k = ((s[k]'hlt).toNat : Int) := bts_at s k hlt
  have hltI : (k : Int) < (s.size : Int) := by omega
  have hneI : ((k : Int) == (s.size : Int)) = false := by simp; omega
  have hd60 : ¬ 60 < d := by omega
  have c0 := h.s
  have c1 := h.k
  have c2 := h.o
  have f1 := h.frozen 1
  have hgl := h.lt
  have hk1 : k + 1 ≤ s.size := hlt
  have H := hide (SMv.refl h)
  have hin1 := prs_in s n (k + 1) hk1
  rw [he1] at hin1
  have hk2 : k2 ≤ s.size := hin1.2
  clear hin1
  have hb2 := hb1.symm.trans hb
  have C1 := hide (fun w h => IH.no he1 g (d + 1) w h hk1 hs (by omega) (by omega))
  clear h hb hb1 he1
  go_enter Try.func106, Try.ntmps106
  go_wp2
  go_quiet (fail)
  go_wp2
  go_quiet (fail)
  go_wp2_with fail
  refine (C1.out _ (((H.out.alloc _).drewN _).step.rb)).mono ?_
  rintro e w2 ⟨p2, rfl, m2⟩
  have M2 := hide ((((H.out.alloc _).drewN _).step).trans m2)
  have r3 : ∀ ob, (w2.alloc ob).cell? ⟨g, 2, none⟩ = some (.bool true) := fun ob => (M2.out.alloc ob).rb.o
  clear m2
  go_wp2
  go_loopw [7] (fun v wr => ∃ (q : Option Addr), v = .pointer q ∧ Hid (SMv w wr g s k2 true)) (fun _ _ => 0)
  case atStart => exact ⟨_, rfl, hide (M2.out.alloc _)⟩
  case round =>
    obtain ⟨q, rfl, MJ⟩ := hrel
    have d2 := MJ.out.rb.o
    go_wp2
    go_quiet (fail)
    go_wp2
    go_ret
    exact fmp_no (MJ.out.drewN _)
set_option maxRecDepth 100000 in
set_option maxHeartbeats 8000000 in
theorem form_seq3 (n : Nat) (IH : FC n) (a : Sh) (k2 : Nat) (k4 : Nat) (s : ByteArray) (k g : Nat) (d : Int) (w : World) (h : SB w g s k false) (hk : k ≤ s.size) (hs : s.size ≤ 120) (h0 : 0 ≤ d) (hd : d + n = 60) (hb : byt s k = 40) (he1 : prs s n (k + 1) = (some a, k2)) (he2 : prs s n k2 = (none, k4)) :
    Calls Try.prog 106 #[.pointer (some ⟨g, 0, none⟩), .int .i64 d] w fun e w' => FmP w g s (none, k4) e w' := by
  have hlt : k < s.size := byt_lt (by omega)
  have hb1 : byt s k = ((s[k]'hlt).toNat : Int) := bts_at s k hlt
  have hltI : (k : Int) < (s.size : Int) := by omega
  have hneI : ((k : Int) == (s.size : Int)) = false := by simp; omega
  have hd60 : ¬ 60 < d := by omega
  have c0 := h.s
  have c1 := h.k
  have c2 := h.o
  have f1 := h.frozen 1
  have hgl := h.lt
  have hk1 : k + 1 ≤ s.size := hlt
  have H := hide (SMv.refl h)
  have hin1 := prs_in s n (k + 1) hk1
  rw [he1] at hin1
  have hk2 : k2 ≤ s.size := hin1.2
  clear hin1
  have hk3 : k2 ≤ s.size := hk2
  have hin2 := prs_in s n k2 hk3
  rw [he2] at hin2
  have hk4 : k4 ≤ s.size := hin2.2
  clear hin2
  have C2 := hide (fun w h => IH.no he2 g (d + 1) w h hk3 hs (by omega) (by omega))
  clear he2
  have hb2 := hb1.symm.trans hb
  have C1 := hide (fun w h => IH.yes he1 g (d + 1) w h hk1 hs (by omega) (by omega))
  clear h hb hb1 he1
  go_enter Try.func106, Try.ntmps106
  go_wp2
  go_quiet (fail)
  go_wp2
  go_quiet (fail)
  go_wp2_with fail
  refine (C1.out _ (((H.out.alloc _).drewN _).step.rb)).mono ?_
  rintro e w2 ⟨p2, rfl, m2, t2⟩
  have M2 := hide ((((H.out.alloc _).drewN _).step).trans m2)
  have r3 : ∀ ob, (w2.alloc ob).cell? ⟨g, 2, none⟩ = some (.bool false) := fun ob => (M2.out.alloc ob).rb.o
  have X3 := hide (XN.new 5 (some ⟨w.heap.size, 0, none⟩) hgl (((H.out.alloc _).drewN _).step).gr.size M2.out t2)
  clear m2 t2
  have X4 := X3
  go_wp2_with fail
  refine (C2.out _ X4.out.mv.rb).mono ?_
  rintro e w5 ⟨p5, rfl, m5⟩
  have X5 := hide (X4.out.move m5)
  have n5c := X5.out.fx.at.b
  have n5 := X5.out.fx.frozen 3
  have X6 := hide (X5.out.setB p5)
  have r6 : (w5.setCell ⟨w2.heap.size, 3, none⟩ (.pointer p5)).cell? ⟨g, 2, none⟩ = some (.bool true) := X6.out.mv.rb.o
  clear m5 r3
  go_wp2
  go_loopw [7] (fun v wr => ∃ (q : Option Addr), v = .pointer q ∧ Hid (SMv w wr g s k4 true)) (fun _ _ => 0)
  case atStart => exact ⟨_, rfl, hide (X6.out.mv)⟩
  case round =>
    obtain ⟨q, rfl, MJ⟩ := hrel
    have d2 := MJ.out.rb.o
    go_wp2
    go_quiet (fail)
    go_wp2
    go_ret
    exact fmp_no (MJ.out.drewN _)
end Go.Proofs.Ytapffbbmofhpoab.L5

namespace Go.Proofs.Ytapffbbmofhpoab.L5
open Go.RowKit L1 L4
set_option linter.unusedVariables false

set_option maxRecDepth 100000 in
set_option maxHeartbeats 8000000 in
theorem form_seq4 (n : Nat) (IH : FC n) (a : Sh) (k2 : Nat) (b : Sh) (k4 : Nat) (s : ByteArray) (k g : Nat) (d : Int) (w : World) (h : SB w g s k false) (hk : k ≤ s.size) (hs : s.size ≤ 120) (h0 : 0 ≤ d) (hd : d + n = 60) (hb : byt s k = 40) (he1 : prs s n (k + 1) = (some a, k2)) (he2 : prs s n k2 = (some b, k4)) (hq : byt s k4 ≠ 41) :
    Calls Try.prog 106 #[.pointer (some ⟨g, 0, none⟩), .int .i64 d] w fun e w' => FmP w g s (none, k4) e w' := by
  have hlt : k < s.size := byt_lt (by omega)
  have hb1 : byt s k = ((s[k]'hlt).toNat : Int) := bts_at s k hlt
  have hltI : (k : Int) < (s.size : Int) := by omega
  have hneI : ((k : Int) == (s.size : Int)) = false := by simp; omega
  have hd60 : ¬ 60 < d := by omega
  have c0 := h.s
  have c1 := h.k
  have c2 := h.o
  have f1 := h.frozen 1
  have hgl := h.lt
  have hk1 : k + 1 ≤ s.size := hlt
  have H := hide (SMv.refl h)
  have hin1 := prs_in s n (k + 1) hk1
  rw [he1] at hin1
  have hk2 : k2 ≤ s.size := hin1.2
  clear hin1
  have hk3 : k2 ≤ s.size := hk2
  have hin2 := prs_in s n k2 hk3
  rw [he2] at hin2
  have hk4 : k4 ≤ s.size := hin2.2
  clear hin2
  have C2 := hide (fun w h => IH.yes he2 g (d + 1) w h hk3 hs (by omega) (by omega))
  clear he2
  have T2 := hide (fun w h => stake_no 41 s k4 g false w h hk4 hs hq)
  clear hq
  have hb2 := hb1.symm.trans hb
  have C1 := hide (fun w h => IH.yes he1 g (d + 1) w h hk1 hs (by omega) (by omega))
  clear h hb hb1 he1
  go_enter Try.func106, Try.ntmps106
  go_wp2
  go_quiet (fail)
  go_wp2
  go_quiet (fail)
  go_wp2_with fail
  refine (C1.out _ (((H.out.alloc _).drewN _).step.rb)).mono ?_
  rintro e w2 ⟨p2, rfl, m2, t2⟩
  have M2 := hide ((((H.out.alloc _).drewN _).step).trans m2)
  have r3 : ∀ ob, (w2.alloc ob).cell? ⟨g, 2, none⟩ = some (.bool false) := fun ob => (M2.out.alloc ob).rb.o
  have X3 := hide (XN.new 5 (some ⟨w.heap.size, 0, none⟩) hgl (((H.out.alloc _).drewN _).step).gr.size M2.out t2)
  clear m2 t2
  have X4 := X3
  go_wp2_with fail
  refine (C2.out _ X4.out.mv.rb).mono ?_
  rintro e w5 ⟨p5, rfl, m5, t5⟩
  have X5 := hide (X4.out.move m5)
  have n5c := X5.out.fx.at.b
  have n5 := X5.out.fx.frozen 3
  have Y6 := hide (YN.new X4.out m5 t5)
  have r6 : (w5.setCell ⟨w2.heap.size, 3, none⟩ (.pointer p5)).cell? ⟨g, 2, none⟩ = some (.bool false) := Y6.out.x.mv.rb.o
  have hcv := conv_twoF (w5.setCell ⟨w2.heap.size, 3, none⟩ (.pointer p5)) w5.heap.size (by simp)
  have hcl := cell_twoF (w5.setCell ⟨w2.heap.size, 3, none⟩ (.pointer p5)) w5.heap.size (by simp)
  obtain ⟨hcl0, hcl1⟩ := hcl
  clear m5 t5 r3
  go_wp2_with fail
  refine (l5Bit_any _ _).mono ?_
  rintro e w6 ⟨rfl, rfl⟩
  go_wp2_with fail
  refine (T2.out _ (Y6.out.alloc _).x.mv.rb).mono ?_
  rintro e w7 ⟨rfl, m7⟩
  have Y7 := hide ((Y6.out.alloc _).move m7)
  clear m7
  go_wp2
  go_loopw [7] (fun v wr => ∃ (q : Option Addr), v = .pointer q ∧ Hid (SMv w wr g s k4 true)) (fun _ _ => 0)
  case atStart => exact ⟨_, rfl, hide (Y7.out.x.mv)⟩
  case round =>
    obtain ⟨q, rfl, MJ⟩ := hrel
    have d2 := MJ.out.rb.o
    go_wp2
    go_quiet (fail)
    go_wp2
    go_ret
    exact fmp_no (MJ.out.drewN _)
end Go.Proofs.Ytapffbbmofhpoab.L5

namespace Go.Proofs.Ytapffbbmofhpoab.L5
open Go.RowKit L1 L4
set_option linter.unusedVariables false

set_option maxRecDepth 100000 in
set_option maxHeartbeats 8000000 in
theorem form_seqY (n : Nat) (IH : FC n) (a : Sh) (k2 : Nat) (b : Sh) (k4 : Nat) (s : ByteArray) (k g : Nat) (d : Int) (w : World) (h : SB w g s k false) (hk : k ≤ s.size) (hs : s.size ≤ 120) (h0 : 0 ≤ d) (hd : d + n = 60) (hb : byt s k = 40) (he1 : prs s n (k + 1) = (some a, k2)) (he2 : prs s n k2 = (some b, k4)) (hq : byt s k4 = 41) :
    Calls Try.prog 106 #[.pointer (some ⟨g, 0, none⟩), .int .i64 d] w fun e w' => FmP w g s (some (PP s (.seq a b) (k4 + 1)).1, (PP s (.seq a b) (k4 + 1)).2) e w' := by
  have hlt : k < s.size := byt_lt (by omega)
  have hb1 : byt s k = ((s[k]'hlt).toNat : Int) := bts_at s k hlt
  have hltI : (k : Int) < (s.size : Int) := by omega
  have hneI : ((k : Int) == (s.size : Int)) = false := by simp; omega
  have hd60 : ¬ 60 < d := by omega
  have c0 := h.s
  have c1 := h.k
  have c2 := h.o
  have f1 := h.frozen 1
  have hgl := h.lt
  have hk1 : k + 1 ≤ s.size := hlt
  have H := hide (SMv.refl h)
  have hin1 := prs_in s n (k + 1) hk1
  rw [he1] at hin1
  have hk2 : k2 ≤ s.size := hin1.2
  clear hin1
  have hk3 : k2 ≤ s.size := hk2
  have hin2 := prs_in s n k2 hk3
  rw [he2] at hin2
  have hk4 : k4 ≤ s.size := hin2.2
  clear hin2
  have C2 := hide (fun w h => IH.yes he2 g (d + 1) w h hk3 hs (by omega) (by omega))
  clear he2
  have T2 := hide (fun w h => stake_yes 41 s k4 g false w h hs (by decide) hq)
  have hk5 : k4 + 1 ≤ s.size := byt_lt (by omega)
  clear hq
  obtain ⟨R, hR⟩ : ∃ R, R = PP s (.seq a b) (k4 + 1) := ⟨_, rfl⟩
  rw [← hR]
  have HR := hide hR.symm
  clear hR
  have hb2 := hb1.symm.trans hb
  have C1 := hide (fun w h => IH.yes he1 g (d + 1) w h hk1 hs (by omega) (by omega))
  clear h hb hb1 he1
  go_enter Try.func106, Try.ntmps106
  go_wp2
  go_quiet (fail)
  go_wp2
  go_quiet (fail)
  go_wp2_with fail
  refine (C1.out _ (((H.out.alloc _).drewN _).step.rb)).mono ?_
  rintro e w2 ⟨p2, rfl, m2, t2⟩
  have M2 := hide ((((H.out.alloc _).drewN _).step).trans m2)
  have r3 : ∀ ob, (w2.alloc ob).cell? ⟨g, 2, none⟩ = some (.bool false) := fun ob => (M2.out.alloc ob).rb.o
  have X3 := hide (XN.new 5 (some ⟨w.heap.size, 0, none⟩) hgl (((H.out.alloc _).drewN _).step).gr.size M2.out t2)
  clear m2 t2
  have X4 := X3
  go_wp2_with fail
  refine (C2.out _ X4.out.mv.rb).mono ?_
  rintro e w5 ⟨p5, rfl, m5, t5⟩
  have X5 := hide (X4.out.move m5)
  have n5c := X5.out.fx.at.b
  have n5 := X5.out.fx.frozen 3
  have Y6 := hide (YN.new X4.out m5 t5)
  have r6 : (w5.setCell ⟨w2.heap.size, 3, none⟩ (.pointer p5)).cell? ⟨g, 2, none⟩ = some (.bool false) := Y6.out.x.mv.rb.o
  have hcv := conv_twoF (w5.setCell ⟨w2.heap.size, 3, none⟩ (.pointer p5)) w5.heap.size (by simp)
  have hcl := cell_twoF (w5.setCell ⟨w2.heap.size, 3, none⟩ (.pointer p5)) w5.heap.size (by simp)
  obtain ⟨hcl0, hcl1⟩ := hcl
  clear m5 t5 r3
  go_wp2_with fail
  refine (l5Bit_any _ _).mono ?_
  rintro e w6 ⟨rfl, rfl⟩
  go_wp2_with fail
  refine (T2.out _ (Y6.out.alloc _).x.mv.rb).mono ?_
  rintro e w7 ⟨rfl, m7⟩
  have Y7 := hide ((Y6.out.alloc _).move m7)
  clear m7
  go_wp2
  clear hk1
  have hk1 := hk5
  go_loopw [7] (fun v wr => ∃ (z : Sh) (j : Nat) (q : Option Addr), v = .pointer q ∧ j ≤ s.size ∧ PP s z j = R ∧ Hid (SMv w wr g s j false) ∧ Hid (Tr wr (Nw w) q z)) (fun _ wr => s.size - atOfS wr g)
  case atStart => exact ⟨(.seq a b), _, _, rfl, hk1, HR.out, hide (Y7.out.x.mv), hide (Y7.out.seq)⟩
  case round =>
    obtain ⟨z, j, q, rfl, hj, hpp, MJ, TJ⟩ := hrel
    have hat := at_ofS MJ.out.rb
    have d0 := MJ.out.rb.s
    have d1 := MJ.out.rb.k
    have d2 := MJ.out.rb.o
    have g1 := MJ.out.rb.frozen 1
    have hww : w.heap.size ≤ wr.heap.size := MJ.out.gr.size
    have dA : ∀ n ob, ((wr.drewN n).alloc ob).cell? ⟨g, 1, none⟩ = some (.int .i64 (j : Int)) := fun n ob => ((MJ.out.drewN n).alloc ob).rb.k
    have gA : ∀ n ob, ((wr.drewN n).alloc ob).frozen? ⟨g, 1, none⟩ = false := fun n ob => ((MJ.out.drewN n).alloc ob).rb.frozen 1
    by_cases q7 : byt s j = 42
    · have hjl : j < s.size := byt_lt (by omega)
      have e1 : byt s j = ((s[j]'hjl).toNat : Int) := bts_at s j hjl
      have e2 := e1.symm.trans q7
      have hjI : (j : Int) < (s.size : Int) := by omega
      have hpp2 := hide ((PP_star q7).symm.trans hpp)
      clear q7 e1 hpp
      go_wp2
      go_quiet (fail)
      go_wp2
      go_quiet (fail)
      go_wp2
      go_roundw
      case rel => exact ⟨.many z, j + 1, _, rfl, hjl, hpp2.out, hide ((MJ.out.drewN _).alloc _).step, hide ((tr_over (k := 7) (TJ.out.drewN _) hww (.inl ⟨rfl, rfl⟩)).setR hgl _)⟩
      case measure =>
        rw [at_ofS ((MJ.out.drewN _).alloc _).step.rb, hat]
        omega
    by_cases q8 : byt s j = 94
    · have hjl : j < s.size := byt_lt (by omega)
      have e1 : byt s j = ((s[j]'hjl).toNat : Int) := bts_at s j hjl
      have e2 := e1.symm.trans q8
      have hjI : (j : Int) < (s.size : Int) := by omega
      have hpp2 := hide ((PP_hat q8).symm.trans hpp)
      clear q7 q8 e1 hpp
      go_wp2
      go_quiet (fail)
      go_wp2
      go_quiet (fail)
      go_wp2
      go_roundw
      case rel => exact ⟨.inv z, j + 1, _, rfl, hjl, hpp2.out, hide ((MJ.out.drewN _).alloc _).step, hide ((tr_over (k := 8) (TJ.out.drewN _) hww (.inr ⟨rfl, rfl⟩)).setR hgl _)⟩
      case measure =>
        rw [at_ofS ((MJ.out.drewN _).alloc _).step.rb, hat]
        omega
    have hpp2 := (PP_stop q7 q8).symm.trans hpp
    subst hpp2
    by_cases hjl : j < s.size
    · have e1 : byt s j = ((s[j]'hjl).toNat : Int) := bts_at s j hjl
      obtain ⟨b, hbb⟩ : ∃ b, b = byt s j := ⟨_, rfl⟩
      rw [← hbb] at e1 q7 q8
      have e2 := e1.symm
      have hjI : (j : Int) < (s.size : Int) := by omega
      have r7 : (b == 42) = false := by simpa using q7
      have r8 : (b == 94) = false := by simpa using q8
      clear hbb e1 hpp
      go_wp2
      go_quiet (fail)
      go_wp2
      go_ret
      exact fmp_yes (MJ.out.drewN _) (TJ.out.drewN _)
    · have hjI : ¬ (j : Int) < (s.size : Int) := by omega
      clear q7 q8 hpp
      go_wp2
      go_quiet (fail)
      go_wp2
      go_ret
      exact fmp_yes (MJ.out.drewN _) (TJ.out.drewN _)
end Go.Proofs.Ytapffbbmofhpoab.L5

namespace Go.Proofs.Ytapffbbmofhpoab.L5
open Go.RowKit L1 L4
set_option linter.unusedVariables false

set_option maxRecDepth 100000 in
set_option maxHeartbeats 8000000 in
theorem form_alt1 (n : Nat) (IH : FC n) (k2 : Nat) (s : ByteArray) (k g : Nat) (d : Int) (w : World) (h : SB w g s k false) (hk : k ≤ s.size) (hs : s.size ≤ 120) (h0 : 0 ≤ d) (hd : d + n = 60) (hb : byt s k = 91) (he1 : prs s n (k + 1) = (none, k2)) :
    Calls Try.prog 106 #[.pointer (some ⟨g, 0, none⟩), .int .i64 d] w fun e w' => FmP w g s (none, k2) e w' := by
  have hlt : k < s.size := byt_lt (by omega)
  have hb1 : byt s k = ((s[k]'hlt).toNat : Int) := bts_at s k hlt
  have hltI : (k : Int) < (s.size : Int) := by omega
  have hneI : ((k : Int) == (s.size : Int)) = false := by simp; omega
  have hd60 : ¬ 60 < d := by omega
  have c0 := h.s
  have c1 := h.k
  have c2 := h.o
  have f1 := h.frozen 1
  have hgl := h.lt
  have hk1 : k + 1 ≤ s.size := hlt
  have H := hide (SMv.refl h)
  have hin1 := prs_in s n (k + 1) hk1
  rw [he1] at hin1
  have hk2 : k2 ≤ s.size := hin1.2
  clear hin1
  have hb2 := hb1.symm.trans hb
  have C1 := hide (fun w h => IH.no he1 g (d + 1) w h hk1 hs (by omega) (by omega))
  clear h hb hb1 he1
  go_enter Try.func106, Try.ntmps106
  go_wp2
  go_quiet (fail)
  go_wp2
  go_quiet (fail)
  go_wp2_with fail
  refine (C1.out _ (((H.out.alloc _).drewN _).step.rb)).mono ?_
  rintro e w2 ⟨p2, rfl, m2⟩
  have M2 := hide ((((H.out.alloc _).drewN _).step).trans m2)
  have r3 : ∀ ob, (w2.alloc ob).cell? ⟨g, 2, none⟩ = some (.bool true) := fun ob => (M2.out.alloc ob).rb.o
  clear m2
  go_wp2
  go_loopw [7] (fun v wr => ∃ (q : Option Addr), v = .pointer q ∧ Hid (SMv w wr g s k2 true)) (fun _ _ => 0)
  case atStart => exact ⟨_, rfl, hide (M2.out.alloc _)⟩
  case round =>
    obtain ⟨q, rfl, MJ⟩ := hrel
    have d2 := MJ.out.rb.o
    go_wp2
    go_quiet (fail)
    go_wp2
    go_ret
    exact fmp_no (MJ.out.drewN _)
set_option maxRecDepth 100000 in
set_option maxHeartbeats 8000000 in
theorem form_alt2 (n : Nat) (IH : FC n) (a : Sh) (k2 : Nat) (s : ByteArray) (k g : Nat) (d : Int) (w : World) (h : SB w g s k false) (hk : k ≤ s.size) (hs : s.size ≤ 120) (h0 : 0 ≤ d) (hd : d + n = 60) (hb : byt s k = 91) (he1 : prs s n (k + 1) = (some a, k2)) (hm : byt s k2 ≠ 124) :
    Calls Try.prog 106 #[.pointer (some ⟨g, 0, none⟩), .int .i64 d] w fun e w' => FmP w g s (none, k2) e w' := by
  have hlt : k < s.size := byt_lt (by omega)
  have hb1 : byt s k = ((s[k]'hlt).toNat : Int) := bts_at s k hlt
  have hltI : (k : Int) < (s.size : Int) := by omega
  have hneI : ((k : Int) == (s.size : Int)) = false := by simp; omega
  have hd60 : ¬ 60 < d := by omega
  have c0 := h.s
  have c1 := h.k
  have c2 := h.o
  have f1 := h.frozen 1
  have hgl := h.lt
  have hk1 : k + 1 ≤ s.size := hlt
  have H := hide (SMv.refl h)
  have hin1 := prs_in s n (k + 1) hk1
  rw [he1] at hin1
  have hk2 : k2 ≤ s.size := hin1.2
  clear hin1
  have T1 := hide (fun w h => stake_no 124 s k2 g false w h hk2 hs hm)
  clear hm
  have hb2 := hb1.symm.trans hb
  have C1 := hide (fun w h => IH.yes he1 g (d + 1) w h hk1 hs (by omega) (by omega))
  clear h hb hb1 he1
  go_enter Try.func106, Try.ntmps106
  go_wp2
  go_quiet (fail)
  go_wp2
  go_quiet (fail)
  go_wp2_with fail
  refine (C1.out _ (((H.out.alloc _).drewN _).step.rb)).mono ?_
  rintro e w2 ⟨p2, rfl, m2, t2⟩
  have M2 := hide ((((H.out.alloc _).drewN _).step).trans m2)
  have r3 : ∀ ob, (w2.alloc ob).cell? ⟨g, 2, none⟩ = some (.bool false) := fun ob => (M2.out.alloc ob).rb.o
  have X3 := hide (XN.new 6 none hgl (((H.out.alloc _).drewN _).step).gr.size M2.out t2)
  clear m2 t2
  go_wp2_with fail
  refine (T1.out _ X3.out.mv.rb).mono ?_
  rintro e w3 ⟨rfl, m3⟩
  have X3b := hide (X3.out.move m3)
  have n3c := X3b.out.fx.at.b
  have n3 := X3b.out.fx.frozen 3
  have X4 := hide (X3b.out.setB (some ⟨w.heap.size, 0, none⟩))
  have r4 : (w3.setCell ⟨w2.heap.size, 3, none⟩ (.pointer (some ⟨w.heap.size, 0, none⟩))).cell? ⟨g, 2, none⟩ = some (.bool true) := X4.out.mv.rb.o
  clear m3 r3
  go_wp2
  go_loopw [7] (fun v wr => ∃ (q : Option Addr), v = .pointer q ∧ Hid (SMv w wr g s k2 true)) (fun _ _ => 0)
  case atStart => exact ⟨_, rfl, hide (X4.out.mv)⟩
  case round =>
    obtain ⟨q, rfl, MJ⟩ := hrel
    have d2 := MJ.out.rb.o
    go_wp2
    go_quiet (fail)
    go_wp2
    go_ret
    exact fmp_no (MJ.out.drewN _)
end Go.Proofs.Ytapffbbmofhpoab.L5

namespace Go.Proofs.Ytapffbbmofhpoab.L5
open Go.RowKit L1 L4
set_option linter.unusedVariables false

set_option maxRecDepth 100000 in
set_option maxHeartbeats 8000000 in
theorem form_alt3 (n : Nat) (IH : FC n) (a : Sh) (k2 : Nat) (k4 : Nat) (s : ByteArray) (k g : Nat) (d : Int) (w : World) (h : SB w g s k false) (hk : k ≤ s.size) (hs : s.size ≤ 120) (h0 : 0 ≤ d) (hd : d + n = 60) (hb : byt s k = 91) (he1 : prs s n (k + 1) = (some a, k2)) (hm : byt s k2 = 124) (he2 : prs s n (k2 + 1) = (none, k4)) :
    Calls Try.prog 106 #[.pointer (some ⟨g, 0, none⟩), .int .i64 d] w fun e w' => FmP w g s (none, k4) e w' := by
  have hlt : k < s.size := byt_lt (by omega)
  have hb1 : byt s k = ((s[k]'hlt).toNat : Int) := bts_at s k hlt
  have hltI : (k : Int) < (s.size : Int) := by omega
  have hneI : ((k : Int) == (s.size : Int)) = false := by simp; omega
  have hd60 : ¬ 60 < d := by omega
  have c0 := h.s
  have c1 := h.k
  have c2 := h.o
  have f1 := h.frozen 1
  have hgl := h.lt
  have hk1 : k + 1 ≤ s.size := hlt
  have H := hide (SMv.refl h)
  have hin1 := prs_in s n (k + 1) hk1
  rw [he1] at hin1
  have hk2 : k2 ≤ s.size := hin1.2
  clear hin1
  have hk3 : k2 + 1 ≤ s.size := byt_lt (by omega)
  have hin2 := prs_in s n (k2 + 1) hk3
  rw [he2] at hin2
  have hk4 : k4 ≤ s.size := hin2.2
  clear hin2
  have C2 := hide (fun w h => IH.no he2 g (d + 1) w h hk3 hs (by omega) (by omega))
  clear he2
  have T1 := hide (fun w h => stake_yes 124 s k2 g false w h hs (by decide) hm)
  clear hm
  have hb2 := hb1.symm.trans hb
  have C1 := hide (fun w h => IH.yes he1 g (d + 1) w h hk1 hs (by omega) (by omega))
  clear h hb hb1 he1
  go_enter Try.func106, Try.ntmps106
  go_wp2
  go_quiet (fail)
  go_wp2
  go_quiet (fail)
  go_wp2_with fail
  refine (C1.out _ (((H.out.alloc _).drewN _).step.rb)).mono ?_
  rintro e w2 ⟨p2, rfl, m2, t2⟩
  have M2 := hide ((((H.out.alloc _).drewN _).step).trans m2)
  have r3 : ∀ ob, (w2.alloc ob).cell? ⟨g, 2, none⟩ = some (.bool false) := fun ob => (M2.out.alloc ob).rb.o
  have X3 := hide (XN.new 6 none hgl (((H.out.alloc _).drewN _).step).gr.size M2.out t2)
  clear m2 t2
  go_wp2_with fail
  refine (T1.out _ X3.out.mv.rb).mono ?_
  rintro e w3 ⟨rfl, m3⟩
  have X3b := hide (X3.out.move m3)
  have n3c := X3b.out.fx.at.b
  have n3 := X3b.out.fx.frozen 3
  have X4 := hide (X3b.out.setB (some ⟨w.heap.size, 0, none⟩))
  have r4 : (w3.setCell ⟨w2.heap.size, 3, none⟩ (.pointer (some ⟨w.heap.size, 0, none⟩))).cell? ⟨g, 2, none⟩ = some (.bool false) := X4.out.mv.rb.o
  clear m3 r3
  go_wp2_with fail
  refine (C2.out _ X4.out.mv.rb).mono ?_
  rintro e w5 ⟨p5, rfl, m5⟩
  have X5 := hide (X4.out.move m5)
  have n5c := X5.out.fx.at.b
  have n5 := X5.out.fx.frozen 3
  have X6 := hide (X5.out.setB p5)
  have r6 : (w5.setCell ⟨w2.heap.size, 3, none⟩ (.pointer p5)).cell? ⟨g, 2, none⟩ = some (.bool true) := X6.out.mv.rb.o
  clear m5 r4
  go_wp2
  go_loopw [7] (fun v wr => ∃ (q : Option Addr), v = .pointer q ∧ Hid (SMv w wr g s k4 true)) (fun _ _ => 0)
  case atStart => exact ⟨_, rfl, hide (X6.out.mv)⟩
  case round =>
    obtain ⟨q, rfl, MJ⟩ := hrel
    have d2 := MJ.out.rb.o
    go_wp2
    go_quiet (fail)
    go_wp2
    go_ret
    exact fmp_no (MJ.out.drewN _)
set_option maxRecDepth 100000 in
set_option maxHeartbeats 8000000 in
theorem form_alt4 (n : Nat) (IH : FC n) (a : Sh) (k2 : Nat) (b : Sh) (k4 : Nat) (s : ByteArray) (k g : Nat) (d : Int) (w : World) (h : SB w g s k false) (hk : k ≤ s.size) (hs : s.size ≤ 120) (h0 : 0 ≤ d) (hd : d + n = 60) (hb : byt s k = 91) (he1 : prs s n (k + 1) = (some a, k2)) (hm : byt s k2 = 124) (he2 : prs s n (k2 + 1) = (some b, k4)) (hq : byt s k4 ≠ 93) :
    Calls Try.prog 106 #[.pointer (some ⟨g, 0, none⟩), .int .i64 d] w fun e w' => FmP w g s (none, k4) e w' := by
  have hlt : k < s.size := byt_lt (by omega)
  have hb1 : byt s k = ((s[k]'hlt).toNat : Int) := bts_at s k hlt
  have hltI : (k : Int) < (s.size : Int) := by omega
  have hneI : ((k : Int) == (s.size : Int)) = false := by simp; omega
  have hd60 : ¬ 60 < d := by omega
  have c0 := h.s
  have c1 := h.k
  have c2 := h.o
  have f1 := h.frozen 1
  have hgl := h.lt
  have hk1 : k + 1 ≤ s.size := hlt
  have H := hide (SMv.refl h)
  have hin1 := prs_in s n (k + 1) hk1
  rw [he1] at hin1
  have hk2 : k2 ≤ s.size := hin1.2
  clear hin1
  have hk3 : k2 + 1 ≤ s.size := byt_lt (by omega)
  have hin2 := prs_in s n (k2 + 1) hk3
  rw [he2] at hin2
  have hk4 : k4 ≤ s.size := hin2.2
  clear hin2
  have C2 := hide (fun w h => IH.yes he2 g (d + 1) w h hk3 hs (by omega) (by omega))
  clear he2
  have T2 := hide (fun w h => stake_no 93 s k4 g false w h hk4 hs hq)
  clear hq
  have T1 := hide (fun w h => stake_yes 124 s k2 g false w h hs (by decide) hm)
  clear hm
  have hb2 := hb1.symm.trans hb
  have C1 := hide (fun w h => IH.yes he1 g (d + 1) w h hk1 hs (by omega) (by omega))
  clear h hb hb1 he1
  go_enter Try.func106, Try.ntmps106
  go_wp2
  go_quiet (fail)
  go_wp2
  go_quiet (fail)
  go_wp2_with fail
  refine (C1.out _ (((H.out.alloc _).drewN _).step.rb)).mono ?_
  rintro e w2 ⟨p2, rfl, m2, t2⟩
  have M2 := hide ((((H.out.alloc _).drewN _).step).trans m2)
  have r3 : ∀ ob, (w2.alloc ob).cell? ⟨g, 2, none⟩ = some (.bool false) := fun ob => (M2.out.alloc ob).rb.o
  have X3 := hide (XN.new 6 none hgl (((H.out.alloc _).drewN _).step).gr.size M2.out t2)
  clear m2 t2
  go_wp2_with fail
  refine (T1.out _ X3.out.mv.rb).mono ?_
  rintro e w3 ⟨rfl, m3⟩
  have X3b := hide (X3.out.move m3)
  have n3c := X3b.out.fx.at.b
  have n3 := X3b.out.fx.frozen 3
  have X4 := hide (X3b.out.setB (some ⟨w.heap.size, 0, none⟩))
  have r4 : (w3.setCell ⟨w2.heap.size, 3, none⟩ (.pointer (some ⟨w.heap.size, 0, none⟩))).cell? ⟨g, 2, none⟩ = some (.bool false) := X4.out.mv.rb.o
  clear m3 r3
  go_wp2_with fail
  refine (C2.out _ X4.out.mv.rb).mono ?_
  rintro e w5 ⟨p5, rfl, m5, t5⟩
  have X5 := hide (X4.out.move m5)
  have n5c := X5.out.fx.at.b
  have n5 := X5.out.fx.frozen 3
  have Y6 := hide (YN.new X4.out m5 t5)
  have r6 : (w5.setCell ⟨w2.heap.size, 3, none⟩ (.pointer p5)).cell? ⟨g, 2, none⟩ = some (.bool false) := Y6.out.x.mv.rb.o
  have hcv := conv_twoF (w5.setCell ⟨w2.heap.size, 3, none⟩ (.pointer p5)) w5.heap.size (by simp)
  have hcl := cell_twoF (w5.setCell ⟨w2.heap.size, 3, none⟩ (.pointer p5)) w5.heap.size (by simp)
  obtain ⟨hcl0, hcl1⟩ := hcl
  clear m5 t5 r4
  go_wp2_with fail
  refine (l5Bit_any _ _).mono ?_
  rintro e w6 ⟨rfl, rfl⟩
  go_wp2_with fail
  refine (T2.out _ (Y6.out.alloc _).x.mv.rb).mono ?_
  rintro e w7 ⟨rfl, m7⟩
  have Y7 := hide ((Y6.out.alloc _).move m7)
  clear m7
  go_wp2
  go_loopw [7] (fun v wr => ∃ (q : Option Addr), v = .pointer q ∧ Hid (SMv w wr g s k4 true)) (fun _ _ => 0)
  case atStart => exact ⟨_, rfl, hide (Y7.out.x.mv)⟩
  case round =>
    obtain ⟨q, rfl, MJ⟩ := hrel
    have d2 := MJ.out.rb.o
    go_wp2
    go_quiet (fail)
    go_wp2
    go_ret
    exact fmp_no (MJ.out.drewN _)
end Go.Proofs.Ytapffbbmofhpoab.L5

namespace Go.Proofs.Ytapffbbmofhpoab.L5
open Go.RowKit L1 L4
set_option linter.unusedVariables false

set_option maxRecDepth 100000 in
set_option maxHeartbeats 8000000 in
theorem form_altY (n : Nat) (IH : FC n) (a : Sh) (k2 : Nat) (b : Sh) (k4 : Nat) (s : ByteArray) (k g : Nat) (d : Int) (w : World) (h : SB w g s k false) (hk : k ≤ s.size) (hs : s.size ≤ 120) (h0 : 0 ≤ d) (hd : d + n = 60) (hb : byt s k = 91) (he1 : prs s n (k + 1) = (some a, k2)) (hm : byt s k2 = 124) (he2 : prs s n (k2 + 1) = (some b, k4)) (hq : byt s k4 = 93) :
    Calls Try.prog 106 #[.pointer (some ⟨g, 0, none⟩), .int .i64 d] w fun e w' => FmP w g s (some (PP s (.alt a b) (k4 + 1)).1, (PP s (.alt a b) (k4 + 1)).2) e w' := by
  have hlt : k < s.size := byt_lt (by omega)
  have hb1 : byt s k = ((s[k]'hlt).toNat : Int) := bts_at s k hlt
  have hltI : (k : Int) < (s.size : Int) := by omega
  have hneI : ((k : Int) == (s.size : Int)) = false := by simp; omega
  have hd60 : ¬ 60 < d := by omega
  have c0 := h.s
  have c1 := h.k
  have c2 := h.o
  have f1 := h.frozen 1
  have hgl := h.lt
  have hk1 : k + 1 ≤ s.size := hlt
  have H := hide (SMv.refl h)
  have hin1 := prs_in s n (k + 1) hk1
  rw [he1] at hin1
  have hk2 : k2 ≤ s.size := hin1.2
  clear hin1
  have hk3 : k2 + 1 ≤ s.size := byt_lt (by omega)
  have hin2 := prs_in s n (k2 + 1) hk3
  rw [he2] at hin2
  have hk4 : k4 ≤ s.size := hin2.2
  clear hin2
  have C2 := hide (fun w h => IH.yes he2 g (d + 1) w h hk3 hs (by omega) (by omega))
  clear he2
  have T2 := hide (fun w h => stake_yes 93 s k4 g false w h hs (by decide) hq)
  have hk5 : k4 + 1 ≤ s.size := byt_lt (by omega)
  clear hq
  have T1 := hide (fun w h => stake_yes 124 s k2 g false w h hs (by decide) hm)
  clear hm
  obtain ⟨R, hR⟩ : ∃ R, R = PP s (.alt a b) (k4 + 1) := ⟨_, rfl⟩
  rw [← hR]
  have HR := hide hR.symm
  clear hR
  have hb2 := hb1.symm.trans hb
  have C1 := hide (fun w h => IH.yes he1 g (d + 1) w h hk1 hs (by omega) (by omega))
  clear h hb hb1 he1
  go_enter Try.func106, Try.ntmps106
  go_wp2
  go_quiet (fail)
  go_wp2
  go_quiet (fail)
  go_wp2_with fail
  refine (C1.out _ (((H.out.alloc _).drewN _).step.rb)).mono ?_
  rintro e w2 ⟨p2, rfl, m2, t2⟩
  have M2 := hide ((((H.out.alloc _).drewN _).step).trans m2)
  have r3 : ∀ ob, (w2.alloc ob).cell? ⟨g, 2, none⟩ = some (.bool false) := fun ob => (M2.out.alloc ob).rb.o
  have X3 := hide (XN.new 6 none hgl (((H.out.alloc _).drewN _).step).gr.size M2.out t2)
  clear m2 t2
  go_wp2_with fail
  refine (T1.out _ X3.out.mv.rb).mono ?_
  rintro e w3 ⟨rfl, m3⟩
  have X3b := hide (X3.out.move m3)
  have n3c := X3b.out.fx.at.b
  have n3 := X3b.out.fx.frozen 3
  have X4 := hide (X3b.out.setB (some ⟨w.heap.size, 0, none⟩))
  have r4 : (w3.setCell ⟨w2.heap.size, 3, none⟩ (.pointer (some ⟨w.heap.size, 0, none⟩))).cell? ⟨g, 2, none⟩ = some (.bool false) := X4.out.mv.rb.o
  clear m3 r3
  go_wp2_with fail
  refine (C2.out _ X4.out.mv.rb).mono ?_
  rintro e w5 ⟨p5, rfl, m5, t5⟩
  have X5 := hide (X4.out.move m5)
  have n5c := X5.out.fx.at.b
  have n5 := X5.out.fx.frozen 3
  have Y6 := hide (YN.new X4.out m5 t5)
  have r6 : (w5.setCell ⟨w2.heap.size, 3, none⟩ (.pointer p5)).cell? ⟨g, 2, none⟩ = some (.bool false) := Y6.out.x.mv.rb.o
  have hcv := conv_twoF (w5.setCell ⟨w2.heap.size, 3, none⟩ (.pointer p5)) w5.heap.size (by simp)
  have hcl := cell_twoF (w5.setCell ⟨w2.heap.size, 3, none⟩ (.pointer p5)) w5.heap.size (by simp)
  obtain ⟨hcl0, hcl1⟩ := hcl
  clear m5 t5 r4
  go_wp2_with fail
  refine (l5Bit_any _ _).mono ?_
  rintro e w6 ⟨rfl, rfl⟩
  go_wp2_with fail
  refine (T2.out _ (Y6.out.alloc _).x.mv.rb).mono ?_
  rintro e w7 ⟨rfl, m7⟩
  have Y7 := hide ((Y6.out.alloc _).move m7)
  clear m7
  go_wp2
  clear hk1
  have hk1 := hk5
  go_loopw [7] (fun v wr => ∃ (z : Sh) (j : Nat) (q : Option Addr), v = .pointer q ∧ j ≤ s.size ∧ PP s z j = R ∧ Hid (SMv w wr g s j false) ∧ Hid (Tr wr (Nw w) q z)) (fun _ wr => s.size - atOfS wr g)
  case atStart => exact ⟨(.alt a b), _, _, rfl, hk1, HR.out, hide (Y7.out.x.mv), hide (Y7.out.alt)⟩
  case round =>
    obtain ⟨z, j, q, rfl, hj, hpp, MJ, TJ⟩ := hrel
    have hat := at_ofS MJ.out.rb
    have d0 := MJ.out.rb.s
    have d1 := MJ.out.rb.k
    have d2 := MJ.out.rb.o
    have g1 := MJ.out.rb.frozen 1
    have hww : w.heap.size ≤ wr.heap.size := MJ.out.gr.size
    have dA : ∀ n ob, ((wr.drewN n).alloc ob).cell? ⟨g, 1, none⟩ = some (.int .i64 (j : Int)) := fun n ob => ((MJ.out.drewN n).alloc ob).rb.k
    have gA : ∀ n ob, ((wr.drewN n).alloc ob).frozen? ⟨g, 1, none⟩ = false := fun n ob => ((MJ.out.drewN n).alloc ob).rb.frozen 1
    by_cases q7 : byt s j = 42
    · have hjl : j < s.size := byt_lt (by omega)
      have e1 : byt s j = ((s[j]'hjl).toNat : Int) := bts_at s j hjl
      have e2 := e1.symm.trans q7
      have hjI : (j : Int) < (s.size : Int) := by omega
      have hpp2 := hide ((PP_star q7).symm.trans hpp)
      clear q7 e1 hpp
      go_wp2
      go_quiet (fail)
      go_wp2
      go_quiet (fail)
      go_wp2
      go_roundw
      case rel => exact ⟨.many z, j + 1, _, rfl, hjl, hpp2.out, hide ((MJ.out.drewN _).alloc _).step, hide ((tr_over (k := 7) (TJ.out.drewN _) hww (.inl ⟨rfl, rfl⟩)).setR hgl _)⟩
      case measure =>
        rw [at_ofS ((MJ.out.drewN _).alloc _).step.rb, hat]
        omega
    by_cases q8 : byt s j = 94
    · have hjl : j < s.size := byt_lt (by omega)
      have e1 : byt s j = ((s[j]'hjl).toNat : Int) := bts_at s j hjl
      have e2 := e1.symm.trans q8
      have hjI : (j : Int) < (s.size : Int) := by omega
      have hpp2 := hide ((PP_hat q8).symm.trans hpp)
      clear q7 q8 e1 hpp
      go_wp2
      go_quiet (fail)
      go_wp2
      go_quiet (fail)
      go_wp2
      go_roundw
      case rel => exact ⟨.inv z, j + 1, _, rfl, hjl, hpp2.out, hide ((MJ.out.drewN _).alloc _).step, hide ((tr_over (k := 8) (TJ.out.drewN _) hww (.inr ⟨rfl, rfl⟩)).setR hgl _)⟩
      case measure =>
        rw [at_ofS ((MJ.out.drewN _).alloc _).step.rb, hat]
        omega
    have hpp2 := (PP_stop q7 q8).symm.trans hpp
    subst hpp2
    by_cases hjl : j < s.size
    · have e1 : byt s j = ((s[j]'hjl).toNat : Int) := bts_at s j hjl
      obtain ⟨b, hbb⟩ : ∃ b, b = byt s j := ⟨_, rfl⟩
      rw [← hbb] at e1 q7 q8
      have e2 := e1.symm
      have hjI : (j : Int) < (s.size : Int) := by omega
      have r7 : (b == 42) = false := by simpa using q7
      have r8 : (b == 94) = false := by simpa using q8
      clear hbb e1 hpp
      go_wp2
      go_quiet (fail)
      go_wp2
      go_ret
      exact fmp_yes (MJ.out.drewN _) (TJ.out.drewN _)
    · have hjI : ¬ (j : Int) < (s.size : Int) := by omega
      clear q7 q8 hpp
      go_wp2
      go_quiet (fail)
      go_wp2
      go_ret
      exact fmp_yes (MJ.out.drewN _) (TJ.out.drewN _)
end Go.Proofs.Ytapffbbmofhpoab.L5

namespace Go.Proofs.Ytapffbbmofhpoab.L5
open Go.RowKit L1 L4
set_option linter.unusedVariables false

theorem prs_leaf {s : ByteArray} {n k k1 : Nat} {x : Sh} (h : firstOf (prs s n) s k = (some x, k1)) : prs s (n + 1) k = (some (PP s x k1).1, (PP s x k1).2) := by
  show (match firstOf (prs s n) s k with
    | (none, k1) => (none, k1)
    | (some x, k1) => (some (PP s x k1).1, (PP s x k1).2)) = _
  rw [h]
theorem prs_fail {s : ByteArray} {n k k1 : Nat} (h : firstOf (prs s n) s k = (none, k1)) : prs s (n + 1) k = (none, k1) := by
  show (match firstOf (prs s n) s k with
    | (none, k1) => (none, k1)
    | (some x, k1) => (some (PP s x k1).1, (PP s x k1).2)) = _
  rw [h]
theorem two1 {p : Nat → Option Sh × Nat} {s : ByteArray} {mid behind : Int} {mk : Sh → Sh → Sh} {k k2 : Nat} (h : p k = (none, k2)) : twoOf p s mid behind mk k = (none, k2) := by
  unfold twoOf; rw [h]
theorem two2 {p : Nat → Option Sh × Nat} {s : ByteArray} {mid behind : Int} {mk : Sh → Sh → Sh} {k k2 : Nat} {a : Sh} (h : p k = (some a, k2)) (hm : mid ≠ 0) (hb : byt s k2 ≠ mid) : twoOf p s mid behind mk k = (none, k2) := by
  unfold twoOf; rw [h]; simp only; rw [if_pos ⟨hm, hb⟩]
theorem two3 {p : Nat → Option Sh × Nat} {s : ByteArray} {mid behind : Int} {mk : Sh → Sh → Sh} {k k2 k3 k4 : Nat} {a : Sh} (h : p k = (some a, k2)) (hm : ¬ (mid ≠ 0 ∧ byt s k2 ≠ mid)) (h3 : (if mid = 0 then k2 else k2 + 1) = k3) (h2 : p k3 = (none, k4)) : twoOf p s mid behind mk k = (none, k4) := by
  unfold twoOf; rw [h]; simp only; rw [if_neg hm, h3, h2]
theorem two4 {p : Nat → Option Sh × Nat} {s : ByteArray} {mid behind : Int} {mk : Sh → Sh → Sh} {k k2 k3 k4 : Nat} {a b : Sh} (h : p k = (some a, k2)) (hm : ¬ (mid ≠ 0 ∧ byt s k2 ≠ mid)) (h3 : (if mid = 0 then k2 else k2 + 1) = k3) (h2 : p k3 = (some b, k4)) (hb : byt s k4 ≠ behind) : twoOf p s mid behind mk k = (none, k4) := by
  unfold twoOf; rw [h]; simp only; rw [if_neg hm, h3, h2]; simp only; rw [if_neg hb]
theorem two5 {p : Nat → Option Sh × Nat} {s : ByteArray} {mid behind : Int} {mk : Sh → Sh → Sh} {k k2 k3 k4 : Nat} {a b : Sh} (h : p k = (some a, k2)) (hm : ¬ (mid ≠ 0 ∧ byt s k2 ≠ mid)) (h3 : (if mid = 0 then k2 else k2 + 1) = k3) (h2 : p k3 = (some b, k4)) (hb : byt s k4 = behind) : twoOf p s mid behind mk k = (some (mk a b), k4 + 1) := by
  unfold twoOf; rw [h]; simp only; rw [if_neg hm, h3, h2]; simp only; rw [if_pos hb]
theorem form_zero : FC 0 := by
  intro s k g d w h hk hs h0 hd
  show Calls _ _ _ _ fun e w' => FmP w g s (none, k) e w'
  by_cases hlt : k < s.size
  · exact form_deep s k g d w h hs hlt (by omega)
  · exact form_end s k g d w h hs (by omega)
theorem form_succ (n : Nat) (IH : FC n) : FC (n + 1) := by
  intro s k g d w h hk hs h0 hd
  have hd1 : d + n = 60 := by omega
  by_cases hlt : k < s.size
  case neg =>
    have hz : byt s k = 0 := byt_end (by omega)
    rw [prs_fail (k1 := k) (by unfold firstOf; rw [hz]; rfl)]
    exact form_end s k g d w h hs (by omega)
  by_cases q1 : byt s k = 33
  · rw [prs_leaf (x := .none) (k1 := k + 1) (by unfold firstOf; rw [if_pos q1])]
    exact form_none n s k g d w h hk hs h0 hd1 q1
  by_cases q2 : byt s k = 37
  · rw [prs_leaf (x := .empty) (k1 := k + 1) (by unfold firstOf; rw [if_neg q1, if_pos q2])]
    exact form_empty n s k g d w h hk hs h0 hd1 q2
  by_cases q3 : byt s k = 46
  · rw [prs_leaf (x := .any) (k1 := k + 1) (by unfold firstOf; rw [if_neg q1, if_neg q2, if_pos q3])]
    exact form_anyl n s k g d w h hk hs h0 hd1 q3
  by_cases q4 : byt s k = 40
  · have e : firstOf (prs s n) s k = twoOf (prs s n) s 0 41 .seq (k + 1) := by unfold firstOf; rw [if_neg q1, if_neg q2, if_neg q3, if_pos q4]
    rcases he1 : prs s n (k + 1) with ⟨r1, k2⟩
    cases r1 with
    | none =>
      rw [prs_fail (e.trans (two1 he1))]
      exact form_seq1 n IH k2 s k g d w h hk hs h0 hd1 q4 he1
    | some a =>
      have hm : ¬ ((0 : Int) ≠ 0 ∧ byt s k2 ≠ 0) := fun x => x.1 rfl
      have h3 : (if (0 : Int) = 0 then k2 else k2 + 1) = k2 := if_pos rfl
      rcases he2 : prs s n k2 with ⟨r2, k4⟩
      cases r2 with
      | none =>
        rw [prs_fail (e.trans (two3 he1 hm h3 he2))]
        exact form_seq3 n IH a k2 k4 s k g d w h hk hs h0 hd1 q4 he1 he2
      | some b =>
        by_cases hq : byt s k4 = 41
        · rw [prs_leaf (e.trans (two5 he1 hm h3 he2 hq))]
          exact form_seqY n IH a k2 b k4 s k g d w h hk hs h0 hd1 q4 he1 he2 hq
        · rw [prs_fail (e.trans (two4 he1 hm h3 he2 hq))]
          exact form_seq4 n IH a k2 b k4 s k g d w h hk hs h0 hd1 q4 he1 he2 hq
  by_cases q5 : byt s k = 91
  · have e : firstOf (prs s n) s k = twoOf (prs s n) s 124 93 .alt (k + 1) := by unfold firstOf; rw [if_neg q1, if_neg q2, if_neg q3, if_neg q4, if_pos q5]
    rcases he1 : prs s n (k + 1) with ⟨r1, k2⟩
    cases r1 with
    | none =>
      rw [prs_fail (e.trans (two1 he1))]
      exact form_alt1 n IH k2 s k g d w h hk hs h0 hd1 q5 he1
    | some a =>
      by_cases hmb : byt s k2 = 124
      case neg =>
        rw [prs_fail (e.trans (two2 he1 (by decide) hmb))]
        exact form_alt2 n IH a k2 s k g d w h hk hs h0 hd1 q5 he1 hmb
      have hm : ¬ ((124 : Int) ≠ 0 ∧ byt s k2 ≠ 124) := fun x => x.2 hmb
      have h3 : (if (124 : Int) = 0 then k2 else k2 + 1) = k2 + 1 := if_neg (by decide)
      rcases he2 : prs s n (k2 + 1) with ⟨r2, k4⟩
      cases r2 with
      | none =>
        rw [prs_fail (e.trans (two3 he1 hm h3 he2))]
        exact form_alt3 n IH a k2 k4 s k g d w h hk hs h0 hd1 q5 he1 hmb he2
      | some b =>
        by_cases hq : byt s k4 = 93
        · rw [prs_leaf (e.trans (two5 he1 hm h3 he2 hq))]
          exact form_altY n IH a k2 b k4 s k g d w h hk hs h0 hd1 q5 he1 hmb he2 hq
        · rw [prs_fail (e.trans (two4 he1 hm h3 he2 hq))]
          exact form_alt4 n IH a k2 b k4 s k g d w h hk hs h0 hd1 q5 he1 hmb he2 hq
  by_cases q6 : 97 ≤ byt s k ∧ byt s k ≤ 122
  · rw [prs_leaf (x := .letter (byt s k)) (k1 := k + 1) (by unfold firstOf; rw [if_neg q1, if_neg q2, if_neg q3, if_neg q4, if_neg q5, if_pos q6])]
    exact form_letter n (byt s k) q6 s k g d w h hk hs h0 hd1 rfl
  · rw [prs_fail (k1 := k) (by unfold firstOf; rw [if_neg q1, if_neg q2, if_neg q3, if_neg q4, if_neg q5, if_neg q6])]
    exact form_bad s k g d w h hs hlt (by omega) q1 q2 q3 q4 q5 q6
theorem form_any : ∀ n, FC n
  | 0 => form_zero
  | n + 1 => form_succ n (form_any n)
end Go.Proofs.Ytapffbbmofhpoab.L5

namespace Go.Proofs.Ytapffbbmofhpoab.L5
open Go.RowKit L1 L4
set_option linter.unusedVariables false

theorem SB.newN (w : World) (s : ByteArray) : SB (w.alloc (.cells #[.string s, .int .i64 0, .bool false] 135)) w.heap.size s 0 false := by
  unfold SB
  show (w.heap.push _)[w.heap.size]? = _
  exact Array.getElem?_push_size
theorem smv_below {w w' : World} {o : Obj} {g k : Nat} {s : ByteArray} {q : Bool} (hg : g = w.heap.size) (h : SMv (w.alloc o) w' g s k q) : Below w.heap.size w w' := by
  subst hg
  exact ((Below.refl _ _).alloc (Nat.le_refl _) o).grown h.gr (by simp) (fun k hk => by cases hk; exact Nat.le_refl _)
theorem below_drewSR {w w' : World} {N : Nat} (h : Below N w w') : ∀ q, Below N w (w'.drewN q)
  | 0 => h
  | q + 1 => (below_drewSR h q).drew
theorem fmp_none {w w' : World} {g k : Nat} {s : ByteArray} {e : Ending} (h : FmP w g s (none, k) e w') : ∃ p, e = .returned (.pointer p) ∧ SMv w w' g s k true := by
  obtain ⟨p, h1, h2, _⟩ := h
  exact ⟨p, h1, h2⟩
theorem fmp_some {w w' : World} {g k : Nat} {s : ByteArray} {x : Sh} {e : Ending} (h : FmP w g s (some x, k) e w') : ∃ p, e = .returned (.pointer p) ∧ SMv w w' g s k false ∧ Tr w' (Nw w) p x := by
  obtain ⟨p, h1, h2, h3⟩ := h
  exact ⟨p, h1, h2, h3 x rfl⟩
set_option maxRecDepth 100000 in
set_option maxHeartbeats 4000000 in
theorem specReadForm_any (s : ByteArray) (w : World) (hs : s.size ≤ 1048576) (r : Option (List Pr) × Int) (hr : r = readRes s) :
    Calls Try.prog 52 #[.string s] w fun e w' => RetQ w r e w' := by
  unfold readRes at hr
  by_cases hbig : 120 < s.size
  · rw [if_pos hbig] at hr
    subst hr
    have hbigI : 120 < (s.size : Int) := by omega
    go_enter Try.func52, Try.ntmps52
    go_wp2
    go_ret3
    exact retQ_no (Below.refl _ _)
  rw [if_neg hbig] at hr
  have hbigI : ¬ 120 < (s.size : Int) := by omega
  have N0 := hide (SB.newN w s)
  have C1 := hide (fun g w h => form_any 61 s 0 g 0 w h (Nat.zero_le _) (by omega) (by omega) (by omega))
  have hin := prs_in s 61 0 (Nat.zero_le _)
  have hok := prs_ok s 61 0
  have hsz := prs_sz s 61 0
  rcases he : prs s 61 0 with ⟨x, k⟩
  rw [he] at hin hok hsz hr
  simp only [he] at C1
  have hk : k ≤ s.size := hin.2
  clear he hin
  cases x with
  | none =>
    subst hr
    clear hok hsz
    go_enter Try.func52, Try.ntmps52
    go_wp2_with fail
    refine (C1.out _ _ N0.out).mono ?_
    rintro e w2 h2
    obtain ⟨p2, rfl, m2⟩ := fmp_none h2
    have c1 := m2.rb.k
    have c2 := m2.rb.o
    have B2 := hide (smv_below rfl m2)
    clear h2 m2
    go_wp2
    go_quiet (fail)
    go_wp2
    go_ret3
    exact retQ_no (below_drewSR B2.out _)
  | some x =>
    have hok := hok x rfl
    have hsz := hsz x rfl
    simp only at hr hsz
    have HOK := hide hok
    by_cases hlt : k < s.size
    · rw [if_pos hlt] at hr
      subst hr
      have hltI : (k : Int) < (s.size : Int) := by omega
      clear hok hsz
      go_enter Try.func52, Try.ntmps52
      go_wp2_with fail
      refine (C1.out _ _ N0.out).mono ?_
      rintro e w2 h2
      obtain ⟨p2, rfl, m2, t2⟩ := fmp_some h2
      have c1 := m2.rb.k
      have c2 := m2.rb.o
      have B2 := hide (smv_below rfl m2)
      clear h2 m2 t2
      go_wp2
      go_quiet (fail)
      go_wp2
      go_ret3
      exact retQ_no (below_drewSR B2.out _)
    · rw [if_neg hlt] at hr
      have hltI : ¬ (k : Int) < (s.size : Int) := by omega
      have hlen := flat_len x []
      simp only [List.length_nil, Nat.zero_add] at hlen
      have C5 := hide (fun p base w t hb => l5Flat_any x (fun _ => True) p base (.slice none 0 0) [] w t (fun g _ e => by cases e) (World.ownsRow_nil _ _ _ _) hb (by simp; omega))
      obtain ⟨L, hL⟩ : ∃ L, L = flat x [] := ⟨_, rfl⟩
      simp only [← hL] at hlen hr C5
      have hL2 : (L.length : Int) ≤ 1000 := by omega
      have HR := hide hr
      clear hr hok hsz hlen hL
      go_enter Try.func52, Try.ntmps52
      go_wp2_with fail
      refine (C1.out _ _ N0.out).mono ?_
      rintro e w2 h2
      obtain ⟨p2, rfl, m2, t2⟩ := fmp_some h2
      have c1 := m2.rb.k
      have c2 := m2.rb.o
      have B2 := hide (smv_below rfl m2)
      have T2 := hide (t2.mono (S' := fun _ => True) (fun _ _ => trivial))
      clear h2 m2 t2
      go_wp2_with fail
      refine (C5.out _ w.heap.size _ T2.out B2.out.size).mono ?_
      rintro e w4 ⟨v4, rfl, o4, g4, k4⟩
      have B4 := hide (B2.out.grown g4 B2.out.size (fun k hk => by cases hk))
      have O4 := hide o4
      obtain ⟨x4, c4, rfl⟩ := own_shapeT o4
      clear o4 g4 k4 c1 c2
      by_cases h24 : 24 < (L.length : Int)
      · have HR2 : Hid (r = (none, (s.size : Int))) := hide (by rw [HR.out, if_pos (by omega)])
        go_wp2
        go_ret3
        rw [HR2.out]
        exact retQ_no B4.out
      · have HR2 : Hid (r = (some L, 0)) := hide (by rw [HR.out, if_neg (by omega)])
        go_wp2
        go_ret3
        rw [HR2.out]
        exact ⟨_, rfl, O4.out, B4.out⟩
end Go.Proofs.Ytapffbbmofhpoab.L5
