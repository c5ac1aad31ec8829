/-
  Contract: impl.readDecimal reads a number.
-/
import Derived.Test.YtbcnkglcfjineakDoorL13RdE
namespace Go.Proofs.YtbcnkglcfjineakDoor.L13
open Go.RowKit L1
set_option linter.unusedVariables false

set_option maxRecDepth 100000 in
set_option maxHeartbeats 400000 in
theorem readDecimal_any (s : ByteArray) (w : World) (hs : s.size ≤ 1048576) (hl : Lib13 w) :
    Calls Tryd.prog 29 #[.string s] w (IntEnd s w) := by
  have CA := hide (fun w hl => atoi_any s w hs hl)
  have HL := hide hl
  clear hl
  go_enter Tryd.func29, Tryd.ntmps29
  go_wp2_with fail
  refine (CA.out _ HL.out).mono ?_
  rintro e w1 (⟨v, rfl, hv, hb⟩ | ⟨v, t, p, rfl, hv, hb⟩)
  · have hr := atoi_range hv
    have CI := hide (fun wx hp => itoa_any v hr.1 hr.2 wx hp)
    have HB := hide hb
    have HL1 := hide (HL.out.below hb)
    by_cases he : numT v = s
    · have E := hide (isRd_atoi hv true (by simp [he]) v (fun _ => rfl))
      have hq : ((numT v).toList == s.toList) = true := (str_eqb _ _).2 he
      obtain ⟨X, hX⟩ : ∃ X, X = numT v := ⟨_, rfl⟩
      rw [← hX] at CI hq
      clear hX he hr hb hv
      go_wp2_with fail
      refine (CI.out _ HL1.out.tab).mono ?_
      rintro e w2 ⟨rfl, hb⟩
      have HB2 := hide (HB.out.trans (hb.mono HB.out.size))
      clear hb
      go_wp2
      go_ret2
      exact ⟨_, _, rfl, E.out, HB2.out⟩
    · have E := hide (isRd_atoi hv false (by simp [he]) 0 (fun h => absurd h (by simp)))
      have hq : ((numT v).toList == s.toList) = false := by
        cases hc : ((numT v).toList == s.toList) with
        | false => rfl
        | true => exact absurd ((str_eqb _ _).1 hc) he
      obtain ⟨X, hX⟩ : ∃ X, X = numT v := ⟨_, rfl⟩
      rw [← hX] at CI hq
      clear hX he hr hb hv
      go_wp2_with fail
      refine (CI.out _ HL1.out.tab).mono ?_
      rintro e w2 ⟨rfl, hb⟩
      have HB2 := hide (HB.out.trans (hb.mono HB.out.size))
      clear hb
      go_wp2
      go_ret2
      exact ⟨_, _, rfl, E.out, HB2.out⟩
  · have E := hide (isRd_bad hv)
    have HB := hide hb
    clear hv hb
    go_wp2
    go_ret2
    exact ⟨_, _, rfl, E.out, HB.out⟩
end Go.Proofs.YtbcnkglcfjineakDoor.L13
