/-
  Contract: (*spec.l5R).form where a form begins with two forms.
-/
import Derived.Test.YtkdiffpbljohkayL5FormT
namespace Go.Proofs.Ytkdiffpbljohkay.L5
open Go.RowKit L1 L4
set_option linter.unusedVariables false

set_option maxRecDepth 100000 in
set_option maxHeartbeats 8000000 in
theorem form_seq4 (n : Nat) (IH : FC n) (a : Sh) (k2 : Nat) (b : Sh) (k4 : Nat) (s : ByteArray) (k g : Nat) (d : Int) (w : World) (h : SB w g s k false) (hk : k ≤ s.size) (hs : s.size ≤ 120) (h0 : 0 ≤ d) (hd : d + n = 60) (hb : byt s k = 40) (he1 : prs s n (k + 1) = (some a, k2)) (he2 : prs s n k2 = (some b, k4)) (hq : byt s k4 ≠ 41) :
    Calls Try.prog 49 #[.pointer (some ⟨g, 0, none⟩), .int .i64 d] w fun e w' => FmP w g s (none, k4) e w' := by
  have hlt : k < s.size := byt_lt (by omega)
  have hb1 : byt s k = ((s[k]'hlt).toNat : Int) := bts_at s k hlt
  have hltI : (k : Int) < (s.size : Int) := by omega
  have hneI : ((k : Int) == (s.size : Int)) = false := by simp; omega
  have hd60 : ¬ 60 < d := by omega
  have c0 := h.s
  have c1 := h.k
  have c2 := h.o
  have f1 := h.frozen 1
  have hgl := h.lt
  have hk1 : k + 1 ≤ s.size := hlt
  have H := hide (SMv.refl h)
  have hin1 := prs_in s n (k + 1) hk1
  rw [he1] at hin1
  have hk2 : k2 ≤ s.size := hin1.2
  clear hin1
  have hk3 : k2 ≤ s.size := hk2
  have hin2 := prs_in s n k2 hk3
  rw [he2] at hin2
  have hk4 : k4 ≤ s.size := hin2.2
  clear hin2
  have C2 := hide (fun w h => IH.yes he2 g (d + 1) w h hk3 hs (by omega) (by omega))
  clear he2
  have T2 := hide (fun w h => stake_no 41 s k4 g false w h hk4 hs hq)
  clear hq
  have hb2 := hb1.symm.trans hb
  have C1 := hide (fun w h => IH.yes he1 g (d + 1) w h hk1 hs (by omega) (by omega))
  clear h hb hb1 he1
  go_enter Try.func49, Try.ntmps49
  go_wp2
  go_quiet (fail)
  go_wp2
  go_quiet (fail)
  go_wp2_with fail
  refine (C1.out _ (((H.out.alloc _).drewN _).step.rb)).mono ?_
  rintro e w2 ⟨p2, rfl, m2, t2⟩
  have M2 := hide ((((H.out.alloc _).drewN _).step).trans m2)
  have r3 : ∀ ob, (w2.alloc ob).cell? ⟨g, 2, none⟩ = some (.bool false) := fun ob => (M2.out.alloc ob).rb.o
  have X3 := hide (XN.new 5 (some ⟨w.heap.size, 0, none⟩) hgl (((H.out.alloc _).drewN _).step).gr.size M2.out t2)
  clear m2 t2
  have X4 := X3
  go_wp2_with fail
  refine (C2.out _ X4.out.mv.rb).mono ?_
  rintro e w5 ⟨p5, rfl, m5, t5⟩
  have X5 := hide (X4.out.move m5)
  have n5c := X5.out.fx.at.b
  have n5 := X5.out.fx.frozen 3
  have Y6 := hide (YN.new X4.out m5 t5)
  have r6 : (w5.setCell ⟨w2.heap.size, 3, none⟩ (.pointer p5)).cell? ⟨g, 2, none⟩ = some (.bool false) := Y6.out.x.mv.rb.o
  have hcv := conv_twoF (w5.setCell ⟨w2.heap.size, 3, none⟩ (.pointer p5)) w5.heap.size (by simp)
  have hcl := cell_twoF (w5.setCell ⟨w2.heap.size, 3, none⟩ (.pointer p5)) w5.heap.size (by simp)
  obtain ⟨hcl0, hcl1⟩ := hcl
  clear m5 t5 r3
  go_wp2_with fail
  refine (l5Bit_any _ _).mono ?_
  rintro e w6 ⟨rfl, rfl⟩
  go_wp2_with fail
  refine (T2.out _ (Y6.out.alloc _).x.mv.rb).mono ?_
  rintro e w7 ⟨rfl, m7⟩
  have Y7 := hide ((Y6.out.alloc _).move m7)
  clear m7
  go_wp2
  go_loopw [7] (fun v wr => ∃ (q : Option Addr), v = .pointer q ∧ Hid (SMv w wr g s k4 true)) (fun _ _ => 0)
  case atStart => exact ⟨_, rfl, hide (Y7.out.x.mv)⟩
  case round =>
    obtain ⟨q, rfl, MJ⟩ := hrel
    have d2 := MJ.out.rb.o
    go_wp2
    go_quiet (fail)
    go_wp2
    go_ret
    exact fmp_no (MJ.out.drewN _)
end Go.Proofs.Ytkdiffpbljohkay.L5
