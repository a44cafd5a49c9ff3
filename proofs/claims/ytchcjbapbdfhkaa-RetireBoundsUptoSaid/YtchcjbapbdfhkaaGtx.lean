/- GetText, of the code and of the document. -/
import Derived.Test.YtchcjbapbdfhkaaGet
namespace Go.Proofs.Ytchcjbapbdfhkaa
open Go.RowKit

set_option maxHeartbeats 1000000 in
set_option maxRecDepth 100000 in
theorem gettext_calls (A : Option Addr) (l : List UInt8) (c B : Nat) (w : World) (hb : Rd w B A (l.map B8)) (hl : l.length ≤ 140737488355328) (hc : l.length ≤ c) :
    Calls Try.prog 117 #[.slice A l.length c] w fun e w' => e = .returned (.tuple #[.string (S8 (Mi.gettext l).1), .int .i64 (Mi.gettext l).2.1, .bool (Mi.gettext l).2.2]) ∧ w = w' := by
  have hlen := Mi.get_len l
  have hlt := Mi.get_lt l
  have HT : Hid (Mi.gettext l = if (Mi.get l).2.2 = true ∧ (Mi.get l).1 ≤ l.length - (Mi.get l).2.1 then ((l.drop (Mi.get l).2.1).take (Mi.get l).1, (Mi.get l).2.1 + (Mi.get l).1, true) else ([], 0, false)) := rfl
  rcases hg : Mi.get l with ⟨n, k, ok⟩
  have G := get_calls A l c B w hb hl
  rw [hg] at G hlen hlt HT
  have HG := Lib.hid G
  clear G hg
  simp only at hlen hlt HT
  rcases ok with _ | _
  · have HT2 : Hid (Mi.gettext l = ([], 0, false)) := by rw [HT.out]; simp [Hid]
    clear HT
    go_enter Try.func117, Try.ntmps117
    go_wp2_with (go_at_call 105; refine HG.out.mono ?_; rintro e w' ⟨rfl, rfl⟩)
    go_ret3
    exact ⟨by rw [HT2.out]; rfl, rfl⟩
  · by_cases hn : n ≤ l.length - k
    · have HT2 : Hid (Mi.gettext l = ((l.drop k).take n, k + n, true)) := by rw [HT.out, if_pos ⟨rfl, hn⟩]; rfl
      clear HT
      have hv2 : c ≠ k → (convert 25 9 (.slice (Option.map (fun x => x.add k) A) n (c - k))).run Try.prog w = .ok (.string (S8 ((l.drop k).take n))) w := by
        intro hck
        have hb2 := (hb.drop (k := k) (cap := c) (by simpa using hc)).take n
        rw [if_neg hck, ← List.map_drop, ← List.map_take] at hb2
        exact run_str _ _ _ Try.underlying25 Try.underlying5 Try.underlying9 hb2 _ _ (by simp; omega)
      have hv1 : c = k → (convert 25 9 (.slice A n 0)).run Try.prog w = .ok (.string (S8 ((l.drop k).take n))) w := by
        intro hck
        have hn0 : n = 0 := by omega
        rw [hn0, List.take_zero]
        exact run_str _ _ _ Try.underlying25 Try.underlying5 Try.underlying9 (B := B) (l := []) Rd.nil _ _ rfl
      clear hb
      go_enter Try.func117, Try.ntmps117
      go_wp2_with (go_at_call 105; refine HG.out.mono ?_; rintro e w' ⟨rfl, rfl⟩)
      all_goals
        go_ret3
        exact ⟨by rw [HT2.out]; rfl, rfl⟩
    · have HT2 : Hid (Mi.gettext l = ([], 0, false)) := by rw [HT.out, if_neg (fun h => hn h.2)]; rfl
      clear HT
      go_enter Try.func117, Try.ntmps117
      go_wp2_with (go_at_call 105; refine HG.out.mono ?_; rintro e w' ⟨rfl, rfl⟩)
      go_ret3
      exact ⟨by rw [HT2.out]; rfl, rfl⟩

set_option maxHeartbeats 1000000 in
set_option maxRecDepth 100000 in
theorem rgettext_calls (A : Option Addr) (l : List UInt8) (c B : Nat) (w : World) (hb : Rd w B A (l.map B8)) (hl : l.length ≤ 140737488355328) (hc : l.length ≤ c) :
    Calls Try.prog 118 #[.slice A l.length c] w fun e w' => e = .returned (.tuple #[.string (S8 (Mi.gettext l).1), .int .i64 (Mi.gettext l).2.1, .bool (Mi.gettext l).2.2]) ∧ w = w' := by
  have hlen := Mi.get_len l
  have hlt := Mi.get_lt l
  have HT : Hid (Mi.gettext l = if (Mi.get l).2.2 = true ∧ (Mi.get l).1 ≤ l.length - (Mi.get l).2.1 then ((l.drop (Mi.get l).2.1).take (Mi.get l).1, (Mi.get l).2.1 + (Mi.get l).1, true) else ([], 0, false)) := rfl
  rcases hg : Mi.get l with ⟨n, k, ok⟩
  have G := rget_calls A l c B w hb hl
  rw [hg] at G hlen hlt HT
  have HG := Lib.hid G
  clear G hg
  simp only at hlen hlt HT
  rcases ok with _ | _
  · have HT2 : Hid (Mi.gettext l = ([], 0, false)) := by rw [HT.out]; simp [Hid]
    clear HT
    go_enter Try.func118, Try.ntmps118
    go_wp2_with (go_at_call 73; refine HG.out.mono ?_; rintro e w' ⟨rfl, rfl⟩)
    go_ret3
    exact ⟨by rw [HT2.out]; rfl, rfl⟩
  · by_cases hn : n ≤ l.length - k
    · have HT2 : Hid (Mi.gettext l = ((l.drop k).take n, k + n, true)) := by rw [HT.out, if_pos ⟨rfl, hn⟩]; rfl
      clear HT
      have hv2 : c ≠ k → (convert 25 9 (.slice (Option.map (fun x => x.add k) A) n (c - k))).run Try.prog w = .ok (.string (S8 ((l.drop k).take n))) w := by
        intro hck
        have hb2 := (hb.drop (k := k) (cap := c) (by simpa using hc)).take n
        rw [if_neg hck, ← List.map_drop, ← List.map_take] at hb2
        exact run_str _ _ _ Try.underlying25 Try.underlying5 Try.underlying9 hb2 _ _ (by simp; omega)
      have hv1 : c = k → (convert 25 9 (.slice A n 0)).run Try.prog w = .ok (.string (S8 ((l.drop k).take n))) w := by
        intro hck
        have hn0 : n = 0 := by omega
        rw [hn0, List.take_zero]
        exact run_str _ _ _ Try.underlying25 Try.underlying5 Try.underlying9 (B := B) (l := []) Rd.nil _ _ rfl
      clear hb
      go_enter Try.func118, Try.ntmps118
      go_wp2_with (go_at_call 73; refine HG.out.mono ?_; rintro e w' ⟨rfl, rfl⟩)
      all_goals
        go_ret3
        exact ⟨by rw [HT2.out]; rfl, rfl⟩
    · have HT2 : Hid (Mi.gettext l = ([], 0, false)) := by rw [HT.out, if_neg (fun h => hn h.2)]; rfl
      clear HT
      go_enter Try.func118, Try.ntmps118
      go_wp2_with (go_at_call 73; refine HG.out.mono ?_; rintro e w' ⟨rfl, rfl⟩)
      go_ret3
      exact ⟨by rw [HT2.out]; rfl, rfl⟩

/-- The same, the length spelled as it stands at the call. -/
theorem gettextN (A : Option Addr) (l : List UInt8) (n c B : Nat) (w : World) (hn : n = l.length) (hb : Rd w B A (l.map B8)) (hl : l.length ≤ 140737488355328) (hc : l.length ≤ c) :
    Calls Try.prog 117 #[.slice A n c] w fun e w' => e = .returned (.tuple #[.string (S8 (Mi.gettext l).1), .int .i64 (Mi.gettext l).2.1, .bool (Mi.gettext l).2.2]) ∧ w = w' := by
  subst hn; exact gettext_calls A l c B w hb hl hc
end Go.Proofs.Ytchcjbapbdfhkaa
