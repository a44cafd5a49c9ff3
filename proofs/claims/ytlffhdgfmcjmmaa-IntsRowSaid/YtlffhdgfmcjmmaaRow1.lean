/- IntsRow: numbers and texts one behind the other are read one behind the other. -/
import Derived.Test.YtlffhdgfmcjmmaaAlive1
namespace Go.Proofs.Ytlffhdgfmcjmmaa
open Go.RowKit

set_option maxHeartbeats 1000000 in
set_option maxRecDepth 100000 in
theorem row_out (A C : Option Addr) (n a m c : Nat) (w : World) (h : 20 < n ∨ 20 < m) (hn : n ≤ maxLen) (hm : m ≤ maxLen) :
    Calls Try.prog 6 #[.slice A n a, .slice C m c] w fun e w' => e = .returned (.bool true) ∧ Below w.heap.size w w' := by
  unfold maxLen at hn hm
  have hh : (20 < n) ∨ (¬ 20 < n ∧ 20 < m) := by omega
  clear h
  rcases hh with h1 | ⟨h1, h2⟩
  all_goals
    go_enter Try.func6, Try.ntmps6
    go_wp2_with (go_at_call 7; refine (alive1_calls _).mono ?_; rintro e w1 ⟨rfl, hb1⟩)
    go_ret
    exact ⟨rfl, hb1⟩

/-- A cut at k, of what reads as p ++ r with p of length k. -/
theorem Rd.rest {w : World} {B : Nat} {A : Option Addr} {p r : List UInt8} (h : Rd w B A ((p ++ r).map B8)) {cap : Nat} (hc : (p ++ r).length ≤ cap) :
    (cap = p.length → Rd w B A (r.map B8)) ∧ (cap ≠ p.length → Rd w B (A.map (·.add p.length)) (r.map B8)) := by
  have hd := h.drop (k := p.length) (cap := cap) (by simpa using hc)
  have e : ((p ++ r).map B8).drop p.length = r.map B8 := by rw [List.map_append, List.drop_left' (by simp)]
  rw [e] at hd
  exact ⟨fun hk => by rw [if_pos hk] at hd; exact hd, fun hk => by rw [if_neg hk] at hd; exact hd⟩

set_option maxHeartbeats 4000000 in
set_option maxRecDepth 100000 in
theorem row_in (A C : Option Addr) (zs : List Int) (ss : List ByteArray) (a c : Nat) (w : World) (hz : zs.length ≤ 20) (hs : ss.length ≤ 20) (hA : Rd w w.heap.size A (zs.map (Value.int .u64))) (hC : Rd w w.heap.size C (ss.map Value.string))
    (hzw : ∀ z ∈ zs, 0 ≤ z ∧ z ≤ 18446744073709551615) (hss : ∀ s ∈ ss, s.size ≤ maxLen) :
    Calls Try.prog 6 #[.slice A zs.length a, .slice C ss.length c] w fun e w' => e = .returned (.bool true) ∧ Below w.heap.size w w' := by
  have HA := Lib.hid hA
  have HC := Lib.hid hC
  have HZ := Lib.hid hzw
  have HS := Lib.hid hss
  clear hA hC hzw hss
  go_enter Try.func6, Try.ntmps6
  go_wp2_with (go_at_call 7; refine (alive1_calls _).mono ?_; rintro e w1 ⟨rfl, hb1⟩; have B1 := Lib.hid hb1; clear hb1)
  go_loopw [6, 7] (fun v i wr => ∃ (k : Nat) (A' : Option Addr) (m' c' : Nat), i = .int .i64 k ∧ k ≤ zs.length ∧ v = .slice A' m' c' ∧ Hid (m' = (Mi.puts (zs.take k)).length) ∧ m' ≤ c' ∧ m' ≤ 200 ∧ Hid (Rd wr wr.heap.size A' ((Mi.puts (zs.take k)).map B8)) ∧ Hid (Below w.heap.size w wr)) (fun _ i _ => zs.length - (intOf i).toNat)
  case atStart => exact ⟨0, none, 0, 0, rfl, Nat.zero_le _, rfl, rfl, Nat.le_refl _, Nat.zero_le _, Rd.nil, B1.out⟩
  case round =>
    obtain ⟨k, A', m', c', rfl, hk, rfl, HM, hmc, hm2, HR, HB⟩ := hrel
    by_cases hlt : k < zs.length
    · obtain ⟨ad, rfl, _, hcell⟩ := (HA.out.below HB.out).at_ (k := k) (by simpa using hlt)
      rw [List.getElem_map] at hcell
      have hzk := HZ.out _ (List.getElem_mem hlt)
      have hst := Mi.puts_snoc zs k hlt
      have hle := Mi.puts_len (zs.take (k + 1))
      rw [List.length_take] at hle
      generalize zs[k] = z at *
      obtain ⟨n, rfl⟩ := Int.eq_ofNat_of_zero_le hzk.1
      rw [Int.toNat_natCast] at hst
      have HST := Lib.hid hst
      clear hst
      go_wp2_with (go_at_call 12; refine (putN _ _ _ _ _ n _ HM.out HR.out (Nat.le_refl _) (by have := HM.out; omega) (by omega)).mono ?_; rw [← HST.out]; rintro e w2 ⟨A2, m2, c2, rfl, hm2', hc2, hr2, hb2⟩; have HM2 := Lib.hid hm2'; have HR2 := Lib.hid hr2; have HB2 := Lib.hid hb2; have hm2le : m2 ≤ 200 := (by have := HM2.out; omega); clear hm2' hr2 hb2)
      go_roundw
      case rel => exact ⟨k + 1, A2, m2, c2, by go_num, by omega, rfl, HM2, hc2, hm2le, HR2, HB.out.trans (HB2.out.mono HB.out.size)⟩
      case measure => simp [intOf]; omega
    · obtain rfl : k = zs.length := by omega
      rw [List.take_length] at HM HR
      go_wp2
      obtain ⟨wo, rfl⟩ : ∃ wo : World, wo = wr := ⟨_, rfl⟩
      obtain ⟨T, hT⟩ : ∃ T, T = Mi.puts zs := ⟨_, rfl⟩
      rw [← hT] at HM HR
      have HT := Lib.hid hT
      clear hT B1
      go_loopw [6, 8] (fun v i wr => ∃ (k : Nat) (A' : Option Addr) (m' c' : Nat), i = .int .i64 k ∧ k ≤ ss.length ∧ v = .slice A' m' c' ∧ Hid (m' = (T ++ Mi.texts (ss.take k)).length) ∧ m' ≤ c' ∧ m' ≤ 200 + 110 * k ∧ Hid (Rd wr wr.heap.size A' ((T ++ Mi.texts (ss.take k)).map B8)) ∧ Hid (Below w.heap.size w wr) ∧ Hid (∀ s ∈ ss.take k, s.size ≤ 100)) (fun _ i _ => ss.length - (intOf i).toNat)
      case atStart =>
        have e0 : T ++ Mi.texts (ss.take 0) = T := by simp [Mi.texts]
        exact ⟨0, A', m', c', rfl, Nat.zero_le _, rfl, by rw [e0]; exact HM, hmc, by omega, by rw [e0]; exact HR, HB, by intro s hs; simp at hs⟩
      case round =>
        clear HM HR hmc hm2
        obtain ⟨k, A', m', c', rfl, hk2, rfl, HM, hmc, hm2, HR, HB2, HSZ⟩ := hrel
        by_cases hlt : k < ss.length
        · obtain ⟨ad, rfl, _, hcell⟩ := (HC.out.below HB2.out).at_ (k := k) (by simpa using hlt)
          rw [List.getElem_map] at hcell
          have hsk := HS.out _ (List.getElem_mem hlt)
          have hst := Mi.texts_snoc ss k hlt
          have htk : ∀ s ∈ ss.take (k + 1), s ∈ ss.take k ∨ s = ss[k] := by
            intro s hs
            rw [List.take_succ_eq_append_getElem hlt, List.mem_append] at hs
            simpa using hs
          have HTK := Lib.hid htk
          clear htk
          generalize ss[k] = s at *
          have HST := Lib.hid hst
          clear hst
          unfold maxLen at hsk
          by_cases h100 : 100 < s.size
          · go_wp2
            go_ret
            exact ⟨rfl, HB2.out⟩
          · have HS2 : Hid (∀ s' ∈ ss.take (k + 1), s'.size ≤ 100) := by
              intro s' hs'
              rcases HTK.out s' hs' with h | rfl
              · exact HSZ.out s' h
              · omega
            have htl : (Mi.text s.data.toList).length ≤ 110 := by
              have := Mi.texts_len [s] (by intro x hx; simp at hx; subst hx; omega)
              simpa [Mi.texts] using this
            go_wp2_with (go_at_call 14; refine (textN _ _ _ _ _ s _ HM.out HR.out (Nat.le_refl _) (by have := HM.out; omega) (by omega)).mono ?_; rw [List.append_assoc, ← HST.out]; rintro e w2 ⟨A2, m2, c2, rfl, hm2', hc2, hr2, hb2⟩; have HM2 := Lib.hid hm2'; have HR2 := Lib.hid hr2; have HB3 := Lib.hid hb2; have hm2le : m2 ≤ 200 + 110 * (k + 1) := (by have h1 := HM2.out; have h2 := HM.out; rw [HST.out] at h1; simp only [List.length_append] at h1 h2; omega); clear hm2' hr2 hb2)
            go_roundw
            case rel => exact ⟨k + 1, A2, m2, c2, by go_num, by omega, rfl, HM2, hc2, hm2le, HR2, HB2.out.trans (HB3.out.mono HB2.out.size), HS2⟩
            case measure => simp [intOf]; omega
        · obtain rfl : k = ss.length := by omega
          rw [List.take_length] at HM HR HSZ
          go_wp2
          obtain ⟨wq, rfl⟩ : ∃ wq : World, wq = wr := ⟨_, rfl⟩
          obtain ⟨U, hU⟩ : ∃ U, U = Mi.texts ss := ⟨_, rfl⟩
          rw [← hU] at HM HR
          have HU := Lib.hid hU
          clear hU
          have hz4 := Mi.texts_len ss HSZ.out
          have hm3 : m' ≤ 4000 := by omega
          clear hz4 hm2
          go_loop [6, 9] (fun v i => ∃ (k : Nat) (A' : Option Addr) (m' c' : Nat), i = .int .i64 k ∧ k ≤ zs.length ∧ v = .slice A' m' c' ∧ Hid (m' = (Mi.puts (zs.drop k) ++ U).length) ∧ m' ≤ c' ∧ m' ≤ 4000 ∧ Hid (Rd wq wq.heap.size A' ((Mi.puts (zs.drop k) ++ U).map B8))) (fun _ i => zs.length - (intOf i).toNat)
          case atStart =>
            exact ⟨0, A', m', c', rfl, Nat.zero_le _, rfl, by rw [List.drop_zero, ← HT.out]; exact HM, hmc, hm3, by rw [List.drop_zero, ← HT.out]; exact HR⟩
          case round =>
            clear HM HR hmc hm3
            obtain ⟨k, A', m', c', rfl, hk3, rfl, HM, hmc, hm3, HR⟩ := hrel
            by_cases hlt : k < zs.length
            · obtain ⟨ad, rfl, _, hcell⟩ := (HA.out.below HB2.out).at_ (k := k) (by simpa using hlt)
              rw [List.getElem_map] at hcell
              have hzk := HZ.out _ (List.getElem_mem hlt)
              have hst := Mi.puts_drop zs k hlt
              generalize zs[k] = z at *
              obtain ⟨n, rfl⟩ := Int.eq_ofNat_of_zero_le hzk.1
              rw [Int.toNat_natCast] at hst
              rw [hst, List.append_assoc] at HM HR
              clear hst
              have p1 := (Mi.put_len n).1
              have p2 : (Mi.put n).length ≤ m' := by have := HM.out; simp only [List.length_append] at this; omega
              have G := getN A' _ m' c' wq.heap.size wq HM.out HR.out (by have := HM.out; omega)
              rw [Mi.get_put n _ (by omega)] at G
              have HG := Lib.hid G
              clear G
              have HC2 := Lib.hid (Rd.rest HR.out (cap := c') (by have := HM.out; omega))
              have HL : Hid (m' - (Mi.put n).length = (Mi.puts (zs.drop (k + 1)) ++ U).length) := by
                show m' - (Mi.put n).length = _
                have := HM.out; rw [List.length_append] at this; omega
              clear HM HR
              generalize (Mi.put n).length = p at *
              rcases Nat.lt_or_ge p c' with hpc | hpc
              · have H2 := Lib.hid (HC2.out.2 (by omega))
                clear HC2
                go_wp2_with (go_at_call 8; refine HG.out.mono ?_; rintro e w2 ⟨rfl, rfl⟩)
                go_round
                case rel => exact ⟨k + 1, _, m' - p, c' - p, by go_num, by omega, rfl, HL, by omega, by omega, H2⟩
                case measure => simp [intOf]; omega
              · have H2 := Lib.hid (HC2.out.1 (by omega))
                clear HC2
                go_wp2_with (go_at_call 8; refine HG.out.mono ?_; rintro e w2 ⟨rfl, rfl⟩)
                go_round
                case rel => exact ⟨k + 1, A', m' - p, _, by go_num, by omega, rfl, HL, by omega, by omega, H2⟩
                case measure => simp [intOf]; omega
            · obtain rfl : k = zs.length := by omega
              rw [List.drop_length] at HM HR
              go_wp2
              have hP : Mi.puts ([] : List Int) ++ U = U := by simp [Mi.puts]
              rw [hP] at HM HR
              clear hP
              go_loop [6, 13] (fun v i => ∃ (k : Nat) (A' : Option Addr) (m' c' : Nat), i = .int .i64 k ∧ k ≤ ss.length ∧ v = .slice A' m' c' ∧ Hid (m' = (Mi.texts (ss.drop k) ++ ([] : List UInt8)).length) ∧ m' ≤ c' ∧ m' ≤ 4000 ∧ Hid (Rd wq wq.heap.size A' ((Mi.texts (ss.drop k) ++ ([] : List UInt8)).map B8))) (fun _ i => ss.length - (intOf i).toNat)
              case atStart =>
                exact ⟨0, A', m', c', rfl, Nat.zero_le _, rfl, by rw [List.drop_zero, ← HU.out, List.append_nil]; exact HM, hmc, hm3, by rw [List.drop_zero, ← HU.out, List.append_nil]; exact HR⟩
              case round =>
                clear HM HR hmc hm3
                obtain ⟨k, A', m', c', rfl, hk4, rfl, HM, hmc, hm3, HR⟩ := hrel
                by_cases hlt : k < ss.length
                · obtain ⟨ad, rfl, _, hcell⟩ := (HC.out.below HB2.out).at_ (k := k) (by simpa using hlt)
                  rw [List.getElem_map] at hcell
                  have hsk := HSZ.out _ (List.getElem_mem hlt)
                  have hst := Mi.texts_drop ss k hlt
                  generalize ss[k] = s at *
                  rw [hst, List.append_assoc] at HM HR
                  clear hst
                  have hsl : s.data.toList.length = s.size := size_list s
                  have p1 : 0 < (Mi.text s.data.toList).length := by
                    have := (Mi.put_len s.data.toList.length).1
                    simp only [Mi.text, List.length_append]; omega
                  have p2 : (Mi.text s.data.toList).length ≤ m' := by have := HM.out; simp only [List.length_append] at this; omega
                  have G := gettextN A' _ m' c' wq.heap.size wq HM.out HR.out (by have := HM.out; omega) (by have := HM.out; omega)
                  rw [Mi.gettext_text s.data.toList _ (by omega), show S8 s.data.toList = s from by cases s; rfl] at G
                  have HG := Lib.hid G
                  clear G
                  have HC2 := Lib.hid (Rd.rest HR.out (cap := c') (by have := HM.out; omega))
                  have HL : Hid (m' - (Mi.text s.data.toList).length = (Mi.texts (ss.drop (k + 1)) ++ ([] : List UInt8)).length) := by
                    show m' - (Mi.text s.data.toList).length = _
                    have := HM.out; rw [List.length_append] at this; omega
                  clear HM HR hsl
                  generalize (Mi.text s.data.toList).length = p at *
                  rcases Nat.lt_or_ge p c' with hpc | hpc
                  · have H2 := Lib.hid (HC2.out.2 (by omega))
                    clear HC2
                    go_wp2_with (go_at_call 10; refine HG.out.mono ?_; rintro e w2 ⟨rfl, rfl⟩)
                    go_round
                    case rel => exact ⟨k + 1, _, m' - p, c' - p, by go_num, by omega, rfl, HL, by omega, by omega, H2⟩
                    case measure => simp [intOf]; omega
                  · have H2 := Lib.hid (HC2.out.1 (by omega))
                    clear HC2
                    go_wp2_with (go_at_call 10; refine HG.out.mono ?_; rintro e w2 ⟨rfl, rfl⟩)
                    go_round
                    case rel => exact ⟨k + 1, A', m' - p, _, by go_num, by omega, rfl, HL, by omega, by omega, H2⟩
                    case measure => simp [intOf]; omega
                · obtain rfl : k = ss.length := by omega
                  have hm0 : m' < 1 := by
                    have := HM.out
                    rw [List.drop_length] at this
                    simp [Mi.texts] at this
                    omega
                  have hb0 : ((m' : Int) == 0) = true := by rw [beq_iff_eq]; omega
                  clear HM HR
                  go_wp2
                  go_ret
                  exact ⟨rfl, HB2.out⟩
end Go.Proofs.Ytlffhdgfmcjmmaa
