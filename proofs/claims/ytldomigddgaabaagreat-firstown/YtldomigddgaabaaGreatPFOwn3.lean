import Derived.Test.YtldomigddgaabaaGreatPFOwn2
namespace Go.Proofs.YtldomigddgaabaaGreat
set_option linter.unusedVariables false
set_option maxRecDepth 100000
set_option maxHeartbeats 16000000
open Go.RowKit Go.Maps
section
variable {B q lo hi : Nat} {w5 : World} {V : Nat -> Value} {E : Nat -> List LE} {m1 m3 c : Nat} {w : World}
theorem FB.up (h : FB B q lo hi w5 V E m1 m3 c w) {m1' c' : Nat} (hm : m1 <= m1') (hc : c <= c') : FB B q lo hi w5 V E m1' m3 c' w :=
 ⟨h.ki, h.ql, h.fr, h.sm, h.hz, h.bl, h.no, fun i => Nat.le_trans (h.ln i) hc, h.nm, fun e he => Nat.lt_of_lt_of_le (h.t1 e he) hm, h.t3, h.bw⟩
def Rws (E0 L : List LE) (C : Array Value) (k : Nat) : Prop := ∀ x ∈ L, x ∈ E0 ∨ ∃ j v, j < k /\ C[j]? = some v /\ v.ownBlock = some x.g
theorem FB.row {w2 : World} {b k : Nat} {C : Array Value} {a : Option Addr} {l : List Int} {c' : Nat} {E0 : List LE} (h : FB B q lo hi w5 V E w2.heap.size m3 c w) (hold : Rws E0 (E 1) C k) (hE0 : ∀ x ∈ E0, x.g < m1) (hm : m1 <= b) (hlo : lo <= b) (hb : Below w2.heap.size w2 w5) (hz : w2.heap.size <= hi) (hC : C[k]? = some (.slice a l.length c')) (hI : IL w2 (.slice a l.length c') l) (hj : ∀ j, (Value.slice a l.length c').ownBlock = some j -> b < j) (hap : ∀ i v, i < k -> C[i]? = some v -> ∀ z, v.ownBlock = some z -> (Value.slice a l.length c').ownBlock ≠ some z) (hle : l.length <= 128) (hc : c <= 1000) :
  Calls Tryz.prog 11 #[.pointer (some ⟨q, 0, none⟩), .slice a l.length c'] w fun e w' => e = .returned (.tuple #[]) /\ ∃ V' E', FB B q lo hi w5 V' E' w2.heap.size m3 (c + 1) w' /\ Rws E0 (E' 1) C (k + 1) := by
 have ho := h.keep (z := b) hI hb hz (fun j e => Nat.le_of_lt (hj j e)) hlo
 have hln := h.ln 1
 have hbl := h.bl
 refine (book_intsF kF kF_ok B q V E w a l.length c' _ h.ki ⟨rfl, rfl, rfl⟩ (fun _ => ho) (fun _ z hz => ⟨by have := hj z hz; omega, fun x hx e => ?_⟩) (by omega)).mono ?_
 ·rcases hold x hx with r | ⟨j, v, r1, r2, r3⟩
  ·have := hE0 x r
   have := hj z hz
   omega
  ·exact hap j v r1 r2 x.g r3 (by rw [e]; exact hz)
 ·rintro e w' ⟨rfl, V', E', k', i, d, b', r⟩
  refine ⟨rfl, V', E', h.step k' r b' (i := 1) (by decide) i d (by omega) (Nat.le_refl _) (Nat.le_refl _) (fun _ j hj => (World.ownsRow.lt hI j hj).2) (fun e => absurd e (by decide)), fun x hx => ?_⟩
  have old : x ∈ E 1 -> x ∈ E0 ∨ ∃ j v, j < k + 1 /\ C[j]? = some v /\ v.ownBlock = some x.g := fun hx => by
   rcases hold x hx with r | ⟨j, v, r1, r2⟩
   ·exact .inl r
   ·exact .inr ⟨j, v, by omega, r2⟩
  rcases d with d | ⟨g, ea, _, d⟩
  ·rw [d] at hx; exact old hx
  ·rw [d] at hx
   rcases List.mem_append.1 hx with hx | hx
   ·exact old hx
   ·obtain rfl := List.mem_singleton.1 hx
    exact .inr ⟨k, _, by omega, hC, by rw [ea]; rfl⟩
theorem FB.lists {w2 : World} {z : Nat} {a : Option Addr} {L : List (List Int)} {c' : Nat} (h : FB B q lo hi w5 V E m1 m3 c w) (p : LO2 w2 z a L c') (hb : Below w2.heap.size w2 w5) (hz : w2.heap.size <= hi) (hlo : lo <= z) (hm : m1 <= z) (hzz : z <= w2.heap.size) (hc : c <= 900) :
  Calls Tryz.prog 10 #[.pointer (some ⟨q, 0, none⟩), .slice a L.length c'] w fun e w' => e = .returned (.tuple #[]) /\ ∃ V' E', FB B q lo hi w5 V' E' w2.heap.size m3 (c + 64) w' := by
 have hl64 := p.le
 by_cases h0 : L = []
 ·subst h0
  have HF : Hid (FB B q lo hi w5 V E w2.heap.size m3 (c + 64) w) := h.up (by omega) (by omega)
  clear h p
  go_enter Tryz.func10, Tryz.ntmps10
  go_wp2
  go_loopw [4] (fun i wr => i = .int .i64 0 /\ wr = w) (fun _ _ => 0)
  case atStart => exact ⟨rfl, rfl⟩
  case round =>
   obtain ⟨rfl, rfl⟩ := hrel
   go_wp2
   go_end0
   exact ⟨rfl, V, E, HF.out⟩
 obtain ⟨b, rfl, hx, hzb⟩ := p.own h0
 have hb2 := hx.lt
 obtain ⟨C, h1, h2, h3, h4⟩ := hx
 have S0 : Hid (FB B q lo hi w5 V E w2.heap.size m3 (c + 0) w /\ Rws (E 1) (E 1) C 0) := ⟨h.up (by omega) (by omega), fun x hx => .inl hx⟩
 have ST : Hid (∀ (k : Nat) (V' : Nat -> Value) (E' : Nat -> List LE) (wr : World), k < L.length -> FB B q lo hi w5 V' E' w2.heap.size m3 (c + k) wr -> Rws (E 1) (E' 1) C k -> ∃ ak n ck, wr.cell? ⟨b, k, none⟩ = some (.slice ak n ck) /\ Hid (Calls Tryz.prog 11 #[.pointer (some ⟨q, 0, none⟩), .slice ak n ck] wr fun e w' => e = .returned (.tuple #[]) /\ ∃ V1 E1, FB B q lo hi w5 V1 E1 w2.heap.size m3 (c + (k + 1)) w' /\ Rws (E 1) (E1 1) C (k + 1))) := fun k V' E' wr hk hF hR => by
  obtain ⟨ak, ck, q1, q2, q3⟩ := h3 k hk
  refine ⟨ak, (L.getD k []).length, ck, ?_, ?_⟩
  ·have e := (hF.sm b (by omega) (by omega)).trans ((hb.block b hb2).trans h1)
   rw [cellq_any e]
   exact q1
  ·exact hF.row hR h.t1 (by omega) (by omega) hb hz q1 q2 q3 (fun i v hi hv => h4 i k v _ hi hk hv q1) (p.each _ (by simp [List.getD, hk])) (by omega)
 have hfin : Hid (∀ V' E' wr, FB B q lo hi w5 V' E' w2.heap.size m3 (c + L.length) wr -> FB B q lo hi w5 V' E' w2.heap.size m3 (c + 64) wr) := fun V' E' wr hF => hF.up (Nat.le_refl _) (by omega)
 clear h p h1 h2 h3 h4 hb hz hm hlo
 go_enter Tryz.func10, Tryz.ntmps10
 go_wp2
 go_loopw [4] (fun i wr => ∃ (k : Nat) (V' : Nat -> Value) (E' : Nat -> List LE), k <= L.length /\ i = .int .i64 k /\ FB B q lo hi w5 V' E' w2.heap.size m3 (c + k) wr /\ Rws (E 1) (E' 1) C k) (fun i _ => L.length - (intOf i).toNat)
 case atStart => exact ⟨0, V, E, Nat.zero_le _, rfl, S0.out⟩
 case round =>
  clear S0
  obtain ⟨k, V', E', hk, rfl, hF, hR⟩ := hrel
  by_cases hlt : k < L.length
  ·have klt : (k : Int) < (L.length : Int) := by omega
   obtain ⟨ak, n, ck, c0, CALL⟩ := ST.out k V' E' wr hlt hF hR
   clear hF hR
   go_wp2_with (go_at_call 11; refine CALL.out.mono ?_; rintro e w4 ⟨rfl, V4, E4, k4, r4⟩)
   go_roundw
   case rel => exact ⟨k + 1, V4, E4, by omega, by go_num, k4, r4⟩
   case measure => simp [intOf]; omega
  ·obtain rfl : k = L.length := by omega
   have HF : Hid (FB B q lo hi w5 V' E' w2.heap.size m3 (c + 64) wr) := hfin.out _ _ _ hF
   clear hF hR
   go_wp2
   go_end0
   exact ⟨rfl, V', E', HF.out⟩
end
end Go.Proofs.YtldomigddgaabaaGreat
