/- DeviceSure. -/
import Derived.Test.YtbdiamhhlabojaaDoorUr
import Derived.Test.YtbdiamhhlabojaaDoorUo
import Derived.BigQuiet
namespace Go.Proofs.YtbdiamhhlabojaaDoor
open Go.RowKit
set_option linter.unusedVariables false
set_option linter.unusedSimpArgs false
set_option maxRecDepth 100000

def Dg.crash (g : Dg) (ps : List Int) : Dg := { g with us := sumD (crashN ps 0 g.L), L := crashN ps 0 g.L, fu := false }
theorem crashL (base D : Nat) (g : Dg) (S : Nat → Prop) (pA : Option Addr) (ps : List Int) (m pc B : Nat) (w : World) (h : DvL w base D g S) (hk : g.ok) (hf : g.L.length ≤ 100000) (hs : ∀ x ∈ g.L, sureOk x) (hus : g.us = sumD g.L)
    (hm : m = ps.length) (hms : m ≤ 100000) (hp : Rd w B pA (ps.map (Value.int .i64))) (hB : B ≤ w.heap.size) (hpA : ∀ a, pA = some a → ¬ S a.block) (hpw : ∀ p ∈ ps, -9223372036854775808 ≤ p ∧ p ≤ 9223372036854775807) :
    Calls Tryd.prog 15 #[.pointer (some ⟨D, 0, none⟩), .slice pA m pc] w (LeftL base D (g.crash ps) S (.tuple #[]) w) := by
  obtain ⟨d, h1, rfl, e1, e2, e3, e4, e5, rfl⟩ := h
  refine (crash_any base d pA ps m pc B w h1 (by rw [← List.length_map (f := Lf.lg), e5]; exact hf) (fun f hf => hs _ (by rw [← e5]; exact List.mem_map_of_mem hf)) (by rw [e2, e5]; exact hus) (by rw [e2]; exact hk.us.2) hm hms hp hB hpA hpw).mono fun e w' hh => ?_
  obtain ⟨d', ⟨p0, p1, p2⟩, q1, q2, q3, q4, q5, q6⟩ := hh
  exact ⟨p0, _, ⟨d', p1, q1, q2.trans e1, by rw [q3, e5]; rfl, q4, q5.trans e4, by rw [q6, e5]; rfl, rfl⟩, p2⟩
theorem rd_out {w : World} {B base : Nat} {A : Option Addr} {xs : List Value} {S : Nat → Prop} (hr : Rd w B A xs) (hge : ∀ k, S k → base ≤ k) (hB : B ≤ base) (hx : xs ≠ []) : ∀ a, A = some a → ¬ S a.block := fun a ha hs => by
  obtain ⟨b, hb, hlt, _⟩ := hr (List.length_pos_iff.2 hx)
  rw [ha] at hb; injection hb with hb; subst hb
  have := hge _ hs; omega
theorem rd_take {w : World} {B k : Nat} {A : Option Addr} {xs : List Value} (h : Rd w B A xs) : Rd w B A (xs.take k) := fun hp => by
  obtain ⟨a, ha, hb, hc⟩ := h (by rw [List.length_take] at hp; omega)
  refine ⟨a, ha, hb, fun j x hx => hc j x ?_⟩
  rw [List.getElem?_take] at hx
  split at hx
  · exact hx
  · cases hx
def gF (room us : Int) (x : List UInt8) (su : Int) (fu : Bool) : Dg := ⟨room, us, [(⟨#[102]⟩, x, su)], fu, 0⟩
theorem sort_one (x : Lg) : SortG [x] := List.pairwise_singleton _ _
theorem hit_f (x : List UInt8) (su : Int) : hitG [(⟨#[102]⟩, x, su)] ⟨#[102]⟩ = true := first_hit (sort_one (⟨#[102]⟩, x, su))
theorem pos_f (x : List UInt8) (su : Int) : posG [(⟨#[102]⟩, x, su)] ⟨#[102]⟩ = 0 := first_pos (sort_one (⟨#[102]⟩, x, su))
theorem put_new (a : List UInt8) : ((Dg.new 1000).put ⟨#[102]⟩ a).burnt = gF 1000 a.length a 0 false := by
  unfold Dg.put Dg.burnt Dg.new gF
  have e : putL [] ⟨#[102]⟩ a = [(⟨#[102]⟩, a, 0)] := rfl
  simp only [e, Int.zero_add]
  rfl
theorem put_f (room us : Int) (x b : List UInt8) (su : Int) : ((gF room us x su false).put ⟨#[102]⟩ b).burnt = gF room (us + b.length) (x ++ b) su false := by
  unfold Dg.put Dg.burnt gF
  have e : putL [((⟨#[102]⟩ : ByteArray), x, su)] ⟨#[102]⟩ b = [(⟨#[102]⟩, x ++ b, su)] := by
    unfold putL
    rw [hit_f, pos_f]; rfl
  simp only [e]
  rfl
theorem gF_ok (room us : Int) (x : List UInt8) (su : Int) (fu : Bool) (h1 : 0 ≤ us ∧ us ≤ 4611686018427387904) (h2 : 0 ≤ room ∧ room ≤ 9223372036854775807) (h4 : x.length ≤ 2147483648) : (gF room us x su fu).ok :=
  ok_one room us 0 fu (⟨#[102]⟩, x, su) h1 h2 ⟨by decide, by decide⟩ h4
/-- The file behind the crash. -/
theorem crash_f (a b : List UInt8) (p : Int) (q : Nat) (hq : (q : Int) = min (max p 0) b.length) : (gF 1000 ((a.length : Int) + b.length) (a ++ b) a.length true).crash [p] = gF 1000 ((a.length : Int) + q) (a ++ b.take q) ((a.length : Int) + q) false := by
  have hc : crashN [p] 0 [((⟨#[102]⟩ : ByteArray), a ++ b, (a.length : Int))] = [(⟨#[102]⟩, a ++ b.take q, (a.length : Int) + q)] := by
    have e1 : cutE p ((⟨#[102]⟩ : ByteArray), a ++ b, (a.length : Int)) = (a.length : Int) + q := by
      unfold cutE
      show (a.length : Int) + min (max p 0) (((a ++ b).length : Int) - a.length) = _
      rw [List.length_append]
      omega
    have e2 : ((a.length : Int) + q).toNat = a.length + q := by omega
    show [crashX p _] = _
    unfold crashX
    rw [e1, e2]
    show [((⟨#[102]⟩ : ByteArray), (a ++ b).take (a.length + q), _)] = _
    rw [List.take_length_add_append]
  unfold Dg.crash gF
  simp only [hc]
  have hs : sumD [((⟨#[102]⟩ : ByteArray), a ++ b.take q, (a.length : Int) + q)] = (a.length : Int) + q := by
    unfold sumD
    simp
    omega
  rw [hs]
end Go.Proofs.YtbdiamhhlabojaaDoor
