/-
  THE DOCUMENT'S NUMBERS: a text as a number, and a number's digits.
-/
import Derived.Test.YtmeaajhongalaaaGreatDoorIA
namespace Go.Proofs.YtmeaajhongalaaaGreatDoor.Nu
open Go.RowKit
open Go.Proofs.YtmeaajhongalaaaGreatDoor

def NumIs (l : List UInt8) (w : World) (e : Ending) (w' : World) : Prop := e = .returned (.tuple #[.int .i64 (numN l : Int), .bool (numB l)]) ∧ w = w'
theorem num_no {l : List UInt8} {w : World} {e : Ending} {w' : World} (h : numB l = false) (he : e = .returned (.tuple #[.int .i64 0, .bool false])) (hw : w = w') : NumIs l w e w' := by
  unfold NumIs numN; rw [h]; exact ⟨he, hw⟩

set_option maxHeartbeats 2000000 in
theorem refNumber_any (s : ByteArray) (hs : s.size ≤ maxLen) (w : World) :
    Calls Tryz.prog 138 #[.string s] w (NumIs s.data.toList w) := by
  unfold maxLen at hs
  have hsl : s.data.toList.length = s.size := by simp
  by_cases h1 : s.size < 1
  · have h1' : (s.size : Int) < 1 := by omega
    have HN := hid (show numB s.data.toList = false from decide_eq_false (by rw [hsl]; omega))
    clear hsl
    go_enter Tryz.func138, Tryz.ntmps138
    go_wp2_with fail
    refine bodyPost_ret (v := .tuple #[.int .i64 0, .bool false]) (by simp [results, Tryz.results138, go_sem]) rfl ?_
    exact num_no HN.out rfl rfl
  by_cases h9 : 9 < s.size
  · have h1' : ¬ (s.size : Int) < 1 := by omega
    have h9' : (9 : Int) < (s.size : Int) := by omega
    have HN := hid (show numB s.data.toList = false from decide_eq_false (by rw [hsl]; omega))
    clear hsl
    go_enter Tryz.func138, Tryz.ntmps138
    go_wp2_with fail
    refine bodyPost_ret (v := .tuple #[.int .i64 0, .bool false]) (by simp [results, Tryz.results138, go_sem]) rfl ?_
    exact num_no HN.out rfl rfl
  have h1' : ¬ (s.size : Int) < 1 := by omega
  have h9' : ¬ (9 : Int) < (s.size : Int) := by omega
  have hz : 0 < s.size := by omega
  have hb0 := hid (byte_at s 0 hz)
  by_cases hlead : 1 < s.size ∧ (s[0].toNat : Int) = 48
  · have g1 : (1 : Int) < (s.size : Int) := by omega
    have g2 : ((s[0].toNat : Int) == 48) = true := by rw [hlead.2]; rfl
    have HN := hid (show numB s.data.toList = false from decide_eq_false (by
      rintro ⟨_, _, h, _⟩
      apply h
      rw [hb0.out, hsl]
      refine ⟨hlead.1, ?_⟩
      congr 1
      apply UInt8.toNat_inj.1
      have := hlead.2
      show s[0].toNat = 48
      omega))
    clear hsl hlead hb0
    go_enter Tryz.func138, Tryz.ntmps138
    go_wp2_with fail
    refine bodyPost_ret (v := .tuple #[.int .i64 0, .bool false]) (by simp [results, Tryz.results138, go_sem]) rfl ?_
    exact num_no HN.out rfl rfl
  have HLEAD := hid hlead
  have HSL := hid hsl
  clear hsl hlead hb0
  have walk : (((1 : Int) < (s.size : Int)) ∧ ((s[0].toNat : Int) == 48) = false) ∨ ¬ ((1 : Int) < (s.size : Int)) := by
    by_cases h : 1 < s.size
    · left; refine ⟨by omega, ?_⟩; rw [beq_eq_false_iff_ne]; intro h'; exact HLEAD.out ⟨h, h'⟩
    · right; omega
  rcases walk with ⟨g1, g2⟩ | g1
  · go_enter Tryz.func138, Tryz.ntmps138
    go_wp2_with fail
    go_loop [4, 5] (fun v u => ∃ k : Nat, k ≤ s.size ∧ u = .int .i64 (k : Nat) ∧ v = .int .i64 (digV (s.data.toList.take k) : Nat) ∧ digV (s.data.toList.take k) < 10 ^ k ∧ run dgB s.data.toList 0 = k + run dgB s.data.toList k) (fun _ u => s.size - (intOf u).toNat)
    case atStart => exact ⟨0, by omega, rfl, rfl, by simp [digV], by simp⟩
    case round =>
      obtain ⟨k, hk, rfl, rfl, hpow, hkr⟩ := hrel
      have HP := hid hpow
      have HKR := hid hkr
      clear hpow hkr
      by_cases hlt : k < s.size
      · have hb := hid (byte_at s k hlt)
        have hi := hid (dgB_int s[k])
        have hcc : (s[k].toNat : Int) ≤ 255 := by have := s[k].toNat_lt; omega
        by_cases hd1 : (s[k].toNat : Int) < 48
        · have HN := hid (num_off HKR.out hb.out (by rw [hi.out, decide_eq_false (by omega)]; rfl))
          go_wp2_with fail
          refine bodyPost_ret (v := .tuple #[.int .i64 0, .bool false]) (by simp [results, Tryz.results138, go_sem]) rfl ?_
          exact num_no HN.out rfl rfl
        · by_cases hd2 : (57 : Int) < (s[k].toNat : Int)
          · have HN := hid (num_off HKR.out hb.out (by rw [hi.out, decide_eq_false (show ¬ (s[k].toNat : Int) ≤ 57 by omega), Bool.and_false]))
            go_wp2_with fail
            refine bodyPost_ret (v := .tuple #[.int .i64 0, .bool false]) (by simp [results, Tryz.results138, go_sem]) rfl ?_
            exact num_no HN.out rfl rfl
          · have hdg : dgB s[k] = true := by rw [hi.out, decide_eq_true (by omega), decide_eq_true (by omega)]; rfl
            have HD := hid (digV_lt hb.out hdg HP.out)
            have HX := hid (digV_next hb.out)
            have hv8 : digV (s.data.toList.take k) < 100000000 := Nat.lt_of_lt_of_le HP.out (pow8 (by omega))
            have HY := hid (run_yes hb.out hdg)
            clear hdg
            generalize hV : digV (s.data.toList.take k) = V at *
            clear hV
            go_wp2_with fail
            go_round
            case rel => exact ⟨k + 1, by omega, by go_num, by rw [HX.out]; go_num, HD.out, by rw [HKR.out, HY.out]; omega⟩
            case measure => simp [intOf]; omega
      · have hks : k = s.size := by omega
        have HN : Hid (numB s.data.toList = true) := hid (decide_eq_true (by
          rw [HSL.out]
          refine ⟨by omega, by omega, ?_, ?_⟩
          · rintro ⟨h1, h2⟩
            have hb0 := byte_at s 0 hz
            rw [hb0] at h2
            injection h2 with h2
            exact HLEAD.out ⟨h1, by rw [h2]; rfl⟩
          · have hend := run_end (p := dgB) (l := s.data.toList) (a := k) (by rw [HSL.out]; omega)
            rw [HKR.out, hend]; omega))
        have HT := hid (show s.data.toList.take k = s.data.toList from List.take_of_length_le (by rw [HSL.out]; omega))
        clear hks
        go_wp2_with fail
        refine bodyPost_ret (v := .tuple #[.int .i64 (digV (s.data.toList.take k) : Nat), .bool true]) (by simp [results, Tryz.results138, go_sem]) rfl ?_
        unfold NumIs numN
        rw [HN.out, if_pos rfl, HT.out]
        exact ⟨rfl, rfl⟩
  · go_enter Tryz.func138, Tryz.ntmps138
    go_wp2_with fail
    go_loop [4, 5] (fun v u => ∃ k : Nat, k ≤ s.size ∧ u = .int .i64 (k : Nat) ∧ v = .int .i64 (digV (s.data.toList.take k) : Nat) ∧ digV (s.data.toList.take k) < 10 ^ k ∧ run dgB s.data.toList 0 = k + run dgB s.data.toList k) (fun _ u => s.size - (intOf u).toNat)
    case atStart => exact ⟨0, by omega, rfl, rfl, by simp [digV], by simp⟩
    case round =>
      obtain ⟨k, hk, rfl, rfl, hpow, hkr⟩ := hrel
      have HP := hid hpow
      have HKR := hid hkr
      clear hpow hkr
      by_cases hlt : k < s.size
      · have hb := hid (byte_at s k hlt)
        have hi := hid (dgB_int s[k])
        have hcc : (s[k].toNat : Int) ≤ 255 := by have := s[k].toNat_lt; omega
        by_cases hd1 : (s[k].toNat : Int) < 48
        · have HN := hid (num_off HKR.out hb.out (by rw [hi.out, decide_eq_false (by omega)]; rfl))
          go_wp2_with fail
          refine bodyPost_ret (v := .tuple #[.int .i64 0, .bool false]) (by simp [results, Tryz.results138, go_sem]) rfl ?_
          exact num_no HN.out rfl rfl
        · by_cases hd2 : (57 : Int) < (s[k].toNat : Int)
          · have HN := hid (num_off HKR.out hb.out (by rw [hi.out, decide_eq_false (show ¬ (s[k].toNat : Int) ≤ 57 by omega), Bool.and_false]))
            go_wp2_with fail
            refine bodyPost_ret (v := .tuple #[.int .i64 0, .bool false]) (by simp [results, Tryz.results138, go_sem]) rfl ?_
            exact num_no HN.out rfl rfl
          · have hdg : dgB s[k] = true := by rw [hi.out, decide_eq_true (by omega), decide_eq_true (by omega)]; rfl
            have HD := hid (digV_lt hb.out hdg HP.out)
            have HX := hid (digV_next hb.out)
            have hv8 : digV (s.data.toList.take k) < 100000000 := Nat.lt_of_lt_of_le HP.out (pow8 (by omega))
            have HY := hid (run_yes hb.out hdg)
            clear hdg
            generalize hV : digV (s.data.toList.take k) = V at *
            clear hV
            go_wp2_with fail
            go_round
            case rel => exact ⟨k + 1, by omega, by go_num, by rw [HX.out]; go_num, HD.out, by rw [HKR.out, HY.out]; omega⟩
            case measure => simp [intOf]; omega
      · have hks : k = s.size := by omega
        have HN : Hid (numB s.data.toList = true) := hid (decide_eq_true (by
          rw [HSL.out]
          refine ⟨by omega, by omega, ?_, ?_⟩
          · rintro ⟨h1, h2⟩
            have hb0 := byte_at s 0 hz
            rw [hb0] at h2
            injection h2 with h2
            exact HLEAD.out ⟨h1, by rw [h2]; rfl⟩
          · have hend := run_end (p := dgB) (l := s.data.toList) (a := k) (by rw [HSL.out]; omega)
            rw [HKR.out, hend]; omega))
        have HT := hid (show s.data.toList.take k = s.data.toList from List.take_of_length_le (by rw [HSL.out]; omega))
        clear hks
        go_wp2_with fail
        refine bodyPost_ret (v := .tuple #[.int .i64 (digV (s.data.toList.take k) : Nat), .bool true]) (by simp [results, Tryz.results138, go_sem]) rfl ?_
        unfold NumIs numN
        rw [HN.out, if_pos rfl, HT.out]
        exact ⟨rfl, rfl⟩

end Go.Proofs.YtmeaajhongalaaaGreatDoor.Nu
