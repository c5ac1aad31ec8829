/-
  Contract: spec.ReadGamma tells the number with whose bits a text begins, and how many bytes these are; memory that was there stays as it was.
-/
import Derived.Test.YtlhmailmgpocbaaDoorL1ReadGamma
import Derived.Lib.ConvBytes
namespace Go.Proofs.YtlhmailmgpocbaaDoor.L1
open Go.RowKit
set_option linter.unusedVariables false
attribute [local go_sem ↓] slice_piece

theorem conv_bytes (s : ByteArray) (w : World) : ∃ cap W1, (convert 9 22 (.string s)).run Tryd.prog w = .ok (.slice (some ⟨w.heap.size, 0, none⟩) s.size cap) W1 ∧ Below w.heap.size w W1 ∧
    ∀ j, j < s.size → W1.cell? ⟨w.heap.size, j, none⟩ = some (.int .u8 ((bts s 0).getD j 0)) := by
  refine ⟨_, _, Lib.run_convert_string_bytes w 9 22 5 s Tryd.underlying9 Tryd.underlying22 Tryd.underlying5, ⟨rfl, rfl, rfl, ?_, fun k hk => Lib.bytesWorld_at_old w _ s k hk⟩, fun j hj => ?_⟩
  · rw [Lib.bytesWorld_size]; omega
  · rw [Lib.bytesWorld_cell w _ s j hj, bts_get0 s j hj]
    have h2 : j < s.data.toList.length := by simpa using hj
    simp only [List.getD, List.getElem?_eq_getElem h2, Option.getD_some]
    rfl

theorem bval_19 {l : List Int} (h : good l = true) (hl : l.length ≤ 20) : 0 ≤ bval l ∧ bval l ≤ 1048575 := by
  have h1 := bval_bd h
  have h2 : pw l.length ≤ pw 20 := pw_le hl
  have h3 : pw 20 = 1048576 := by simp [pw]
  omega

set_option maxHeartbeats 2000000 in
theorem specGamma_any (s : ByteArray) (w : World) (hs : s.size ≤ 1048576) :
    Calls Tryd.prog 28 #[.string s] w fun e w' => e = .returned (rgRes (rg (bts s 0))) ∧ Below w.heap.size w w' := by
  have hl0 := bts_len s 0
  simp only [Nat.sub_zero] at hl0
  have hzl := nz_le (bts s 0)
  have hin := nz_in (bts s 0)
  have hen := nz_end (bts s 0)
  have hrg : rg (bts s 0) = if s.size ≤ 600 ∧ 2 * nz (bts s 0) + 1 ≤ s.size then (bres (((bts s 0).drop (nz (bts s 0))).take (nz (bts s 0) + 1))).map fun v => (v, 2 * nz (bts s 0) + 1) else none := by
    unfold rg
    rw [hl0]
  have hpc := bts_piece s (nz (bts s 0)) (nz (bts s 0) + 1)
  have hpl := ByteArray.size_extract (a := s) (b := nz (bts s 0)) (e := nz (bts s 0) + (nz (bts s 0) + 1))
  have hlong := bres_long (((bts s 0).drop (nz (bts s 0))).take (nz (bts s 0) + 1))
  have hcv := conv_bytes (s.extract (nz (bts s 0)) (nz (bts s 0) + (nz (bts s 0) + 1))) w
  obtain ⟨Z, hZ⟩ : ∃ Z, Z = nz (bts s 0) := ⟨_, rfl⟩
  rw [← hZ] at hzl hin hen hrg hpc hpl hlong hcv
  rw [hl0] at hzl hen
  obtain ⟨p, hp⟩ : ∃ p, p = ((bts s 0).drop Z).take (Z + 1) := ⟨_, rfl⟩
  have hp0 : 2 * Z < s.size → p.length = Z + 1 := fun h => by rw [hp, List.length_take, List.length_drop, hl0]; omega
  have hp1 : 2 * Z < s.size → p.getD 0 0 = (bts s 0).getD Z 0 := fun h => by
    rw [hp]
    simp [List.getD]
  rw [← hp] at hrg hpc hlong
  obtain ⟨cap, W1, hcv, hbW, hcW⟩ := hcv
  have HI := hide hin
  have HE := hide hen
  have HR := hide hrg
  have HP := hide hpc
  have HQ := hide hpl
  have HL := hide hlong
  have HP0 := hide hp0
  have HP1 := hide hp1
  have HCV := hide hcv
  have HCW := hide hcW
  clear hin hen hrg hpc hpl hZ hlong hp hp0 hp1 hcv hcW
  go_enter Tryd.func28, Tryd.ntmps28
  go_wp2
  go_loop [5] (fun i => ∃ k : Nat, k ≤ Z ∧ i = .int .i64 k) (fun i => s.size - (intOf i).toNat)
  case atStart => exact ⟨0, by omega, rfl⟩
  case round =>
    obtain ⟨k, hk, rfl⟩ := hrel
    by_cases hlt : k < Z
    · have hls : k < s.size := by omega
      have hlI : (k : Int) < (s.size : Int) := by omega
      have hb := (bts_get0 s k hls).symm.trans (HI.out k hlt)
      go_wp2
      go_round
      case rel => exact ⟨k + 1, by omega, by go_num⟩
      case measure => simp [intOf]; omega
    · obtain rfl : k = Z := by omega
      clear hlt hk
      by_cases hls : k < s.size
      · have hlI : (k : Int) < (s.size : Int) := by omega
        have hb := (bts_get0 s k hls).symm
        have hne := HE.out hls
        obtain ⟨b, hbe⟩ : ∃ b, b = (bts s 0).getD k 0 := ⟨_, rfl⟩
        have HB := hide hbe
        rw [← hbe] at hb hne
        have hne' : (b == 48) = false := by simpa using hne
        have HN := hide hne
        clear hbe hne
        by_cases h600 : 600 < (s.size : Int)
        · have hR := HR.out
          rw [if_neg (by omega)] at hR
          have HRR := hide hR
          clear hR
          go_wp2
          go_ret3
          rw [HRR.out]
          exact ⟨rfl, Below.refl _ _⟩
        · by_cases h2 : 2 * k < s.size
          · by_cases h19 : 19 < (k : Int)
            · have hR := HR.out
              rw [if_pos (by omega), HL.out (by rw [HP0.out h2]; omega) (by rw [HP1.out h2, ← HB.out]; exact HN.out)] at hR
              have HRR := hide hR
              clear hR
              go_wp2
              go_ret3
              rw [HRR.out]
              exact ⟨rfl, Below.refl _ _⟩
            · have h2I : ¬ (s.size : Int) < 2 * (k : Int) + 1 := by omega
              have h2J : (2 * (k : Int) + 1) ≤ (s.size : Int) := by omega
              have hcv := HCV.out
              rw [HQ.out] at hcv
              have em : min (k + (k + 1)) s.size - k = k + 1 := by omega
              rw [em] at hcv
              have hcw : ∀ j, j < k + 1 → W1.cell? ⟨w.heap.size, j, none⟩ = some (.int .u8 (p.getD j 0)) := fun j hj => by
                have := HCW.out j (by rw [HQ.out]; omega)
                rw [HP.out (by omega)] at this
                exact this
              have hR := HR.out
              rw [if_pos (by omega)] at hR
              have HRR := hide hR
              have HCC := hide hcw
              have hpl := hide (HP0.out h2)
              clear hR hcw
              go_wp2
              go_loop [6, 44] (fun n i => ∃ j : Nat, j ≤ k + 1 ∧ i = .int .i64 j ∧ n = .int .i64 (bval (p.take j)) ∧ Hid (good (p.take j) = true)) (fun _ i => k + 1 - (intOf i).toNat)
              case atStart => exact ⟨0, by omega, rfl, rfl, rfl⟩
              case round =>
                obtain ⟨j, hj, rfl, rfl, HG⟩ := hrel
                have hvb := bval_19 HG.out (by rw [List.length_take, hpl.out]; omega)
                by_cases hjl : j < k + 1
                · have hjI : (j : Int) < (k : Int) + 1 := by omega
                  have hc := HCC.out j hjl
                  have ht1 := btake_one p j (by rw [hpl.out]; omega)
                  have hsn := bval_snoc (p.take j) (p.getD j 0)
                  rw [← ht1] at hsn
                  have hbad := bres_bad p j (by rw [hpl.out]; omega)
                  have hgs : (p.getD j 0 = 48 ∨ p.getD j 0 = 49) → good (p.take (j + 1)) = true := fun h => by
                    rw [ht1]; exact good_snoc.2 ⟨HG.out, h⟩
                  obtain ⟨c, hce⟩ : ∃ c, c = p.getD j 0 := ⟨_, rfl⟩
                  rw [← hce] at hc hsn hbad hgs
                  obtain ⟨v, hve⟩ : ∃ v, v = bval (p.take j) := ⟨_, rfl⟩
                  rw [← hve] at hsn hvb ⊢
                  obtain ⟨hv0, hv1⟩ := hvb
                  have HS := hide hsn
                  have HBD := hide hbad
                  have HGS := hide hgs
                  clear hce hve ht1 hsn hbad hgs
                  by_cases h48 : c = 48
                  · subst h48
                    go_wp2
                    go_round
                    case rel => exact ⟨j + 1, by omega, by go_num, by rw [HS.out]; go_num, HGS.out (.inl rfl)⟩
                    case measure => simp [intOf]; omega
                  · by_cases h49 : c = 49
                    · subst h49
                      go_wp2
                      go_round
                      case rel => exact ⟨j + 1, by omega, by go_num, by rw [HS.out]; go_num, HGS.out (.inr rfl)⟩
                      case measure => simp [intOf]; omega
                    · have h48' : (c != 48) = true := by simpa using h48
                      have h49' : (c != 49) = true := by simpa using h49
                      have hn := hide (HBD.out h48 h49)
                      clear h48 h49
                      go_wp2
                      go_ret3
                      rw [HRR.out, hn.out]
                      exact ⟨rfl, hbW⟩
                · have hjI : ¬ (j : Int) < (k : Int) + 1 := by omega
                  have hg := HG.out
                  rw [List.take_of_length_le (by rw [hpl.out]; omega)] at hg hvb ⊢
                  clear HG
                  obtain ⟨hv0, hv1⟩ := hvb
                  by_cases hgt : 1000000 < bval p
                  · have e : bres p = none := by unfold bres; rw [if_neg (by omega)]
                    have E := hide e
                    have G := hide hg
                    clear e hg
                    go_wp2
                    go_ret3
                    rw [HRR.out, E.out]
                    exact ⟨rfl, hbW⟩
                  · have e : bres p = some (bval p) := by unfold bres; rw [if_pos ⟨hg, by omega⟩]
                    have E := hide e
                    have G := hide hg
                    clear e hg
                    go_wp2
                    go_ret3
                    rw [HRR.out, E.out]
                    exact ⟨rfl, hbW⟩
          · have h2I : (s.size : Int) < 2 * (k : Int) + 1 := by omega
            have hR := HR.out
            rw [if_neg (by omega)] at hR
            have HRR := hide hR
            clear hR
            by_cases h19 : 19 < (k : Int)
            · go_wp2
              go_ret3
              rw [HRR.out]
              exact ⟨rfl, Below.refl _ _⟩
            · go_wp2
              go_ret3
              rw [HRR.out]
              exact ⟨rfl, Below.refl _ _⟩
      · have hlI : ¬ (k : Int) < (s.size : Int) := by omega
        have h2I : (s.size : Int) < 2 * (k : Int) + 1 := by omega
        have hR := HR.out
        rw [if_neg (by omega)] at hR
        have HRR := hide hR
        clear hR
        by_cases h600 : 600 < (s.size : Int)
        · go_wp2
          go_ret3
          rw [HRR.out]
          exact ⟨rfl, Below.refl _ _⟩
        · by_cases h19 : 19 < (k : Int)
          · go_wp2
            go_ret3
            rw [HRR.out]
            exact ⟨rfl, Below.refl _ _⟩
          · go_wp2
            go_ret3
            rw [HRR.out]
            exact ⟨rfl, Below.refl _ _⟩
end Go.Proofs.YtlhmailmgpocbaaDoor.L1
