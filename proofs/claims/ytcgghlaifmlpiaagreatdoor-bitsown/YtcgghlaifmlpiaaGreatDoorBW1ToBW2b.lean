import Derived.Test.YtcgghlaifmlpiaaGreatDoorKApartP
import Derived.Test.YtcgghlaifmlpiaaGreatDoorGSame2ToBR7
import Derived.Test.YtcgghlaifmlpiaaGreatDoorBT20
namespace Go.Proofs.YtcgghlaifmlpiaaGreatDoor
set_option linter.unusedVariables false
open Go.RowKit Go.Maps Go.Shelf

/-- The book, while the answers of a round, which lie from lo on and below hi as in w5, go into it; what lies below hs is never its own. -/
structure FBb (B q hs lo hi : Nat) (w5 : World) (V : Nat → Value) (E : Nat → List LE) (m1 m8 c : Nat) (w : World) : Prop where
  ki : KI kP B w q V E
  ql : q < lo
  fr : ∀ i k, (V i).ownBlock = some k → k < lo ∨ hi ≤ k
  sm : ∀ k, lo ≤ k → k < hi → w.heap[k]? = w5.heap[k]?
  hz : hi ≤ w.heap.size
  bl : B ≤ lo
  no : ∀ i, i ∉ [1, 8] → E i = []
  ln : ∀ i, (E i).length ≤ c
  nm : ∀ i, ∀ e ∈ E i, e.n ≤ 100000000
  t1 : ∀ e ∈ E 1, e.g < m1
  t8 : ∀ e ∈ E 8, e.g < m8
  bw : Below B w5 w
  old : ∀ k, k < hs → k ≠ q → w.heap[k]? = w5.heap[k]?
  nv : ∀ i k, (V i).ownBlock = some k → hs ≤ k
  ne : ∀ i, ∀ e ∈ E i, hs ≤ e.g
  hl : hs ≤ lo
  lh : lo ≤ hi
section
variable {B q hs lo hi : Nat} {w5 : World} {V : Nat → Value} {E : Nat → List LE} {m1 m8 c : Nat} {w : World}
theorem FBb.step (h : FBb B q hs lo hi w5 V E m1 m8 c w) {w' : World} {V' : Nat → Value} {E' : Nat → List LE} {m1' m8' i n c' : Nat} {a : Option Addr} (k : KI kP B w' q V' E') (z : KZ q w V w' V') (b : Below B w w') (hi' : i ∈ [1, 8]) (h2 : ∀ j, j ≠ i → E' j = E j) (h3 : E' i = E i ∨ ∃ g, a = some ⟨g, 0, none⟩ ∧ n ≠ 0 ∧ E' i = E i ++ [⟨g, n, c'⟩]) (hn : n ≤ 100000000) (hm1 : m1 ≤ m1') (hm8 : m8 ≤ m8') (hg1 : i = 1 → ∀ j, (Value.slice a n c').ownBlock = some j → j < m1') (hg8 : i = 8 → ∀ j, (Value.slice a n c').ownBlock = some j → j < m8') (hgs : ∀ j, (Value.slice a n c').ownBlock = some j → hs ≤ j) : FBb B q hs lo hi w5 V' E' m1' m8' (c + 1) w' := by
  have nw : ∀ j, ∀ e ∈ E' j, e ∈ E j ∨ (j = i ∧ e.n = n ∧ (Value.slice a n c').ownBlock = some e.g) := fun j e he => by
    by_cases ej : j = i
    · subst ej
      rcases h3 with e3 | ⟨g, ea, _, e3⟩
      · rw [e3] at he; exact .inl he
      · rw [e3] at he
        rcases List.mem_append.1 he with he | he
        · exact .inl he
        · obtain rfl := List.mem_singleton.1 he
          exact .inr ⟨rfl, rfl, by rw [ea]; rfl⟩
    · rw [h2 j ej] at he; exact .inl he
  have hhz := h.hz
  have hhl := h.hl
  have hql := h.ql
  have hlh := h.lh
  refine ⟨k, h.ql, fun j x hx => ?_, fun x hx hy => ?_, Nat.le_trans h.hz z.size, h.bl, fun j hj => ?_, fun j => ?_, fun j e he => ?_, fun e he => ?_, fun e he => ?_, h.bw.trans b, fun x hx hq => ?_, fun j x hx => ?_, fun j e he => ?_, h.hl, h.lh⟩
  · rcases z.own j x hx with r | r
    · exact h.fr j x r
    · exact .inr (Nat.le_trans h.hz r)
  · refine (z.block x (Nat.lt_of_lt_of_le hy h.hz) (by have := h.ql; omega) fun j e => ?_).trans (h.sm x hx hy)
    rcases h.fr j x e with r | r <;> omega
  · rw [h2 j (fun e => hj (e ▸ hi'))]; exact h.no j hj
  · have := h.ln j
    by_cases e : j = i
    · subst e
      rcases h3 with e3 | ⟨g, _, _, e3⟩ <;> rw [e3]
      · omega
      · rw [List.length_append, List.length_singleton]; omega
    · rw [h2 j e]; omega
  · rcases nw j e he with r | ⟨_, r, _⟩
    · exact h.nm j e r
    · omega
  · rcases nw 1 e he with r | ⟨r, _, r2⟩
    · exact Nat.lt_of_lt_of_le (h.t1 e r) hm1
    · exact hg1 r.symm e.g r2
  · rcases nw 8 e he with r | ⟨r, _, r2⟩
    · exact Nat.lt_of_lt_of_le (h.t8 e r) hm8
    · exact hg8 r.symm e.g r2
  · rcases Nat.lt_or_ge x w.heap.size with r | r
    · refine (z.block x r hq fun j e => ?_).trans (h.old x hx hq)
      have := h.nv j x e
      omega
    · have e1 := h.old x hx hq
      have := h.hz
      omega
  · rcases z.own j x hx with r | r
    · exact h.nv j x r
    · omega
  · rcases nw j e he with r | ⟨_, _, r2⟩
    · exact h.ne j e r
    · exact hgs e.g r2
theorem FBb.keep (h : FBb B q hs lo hi w5 V E m1 m8 c w) {w2 : World} {z : Nat} {t : TypeId} {sz n : Nat} {v : Value} {xs : List Value} (ho : w2.ownsRow 0 t sz v n xs) (hb : Below w2.heap.size w2 w5) (hz : w2.heap.size ≤ hi) (hl : ∀ j, v.ownBlock = some j → z ≤ j) (hlo : lo ≤ z) : w.ownsRow 0 t sz v n xs := row_keptB ho fun k hk => by
  have := World.ownsRow.lt ho k hk
  have := hl k hk
  exact (h.sm k (by omega) (by omega)).trans (hb.block k (by omega))
theorem FBb.up (h : FBb B q hs lo hi w5 V E m1 m8 c w) {m1' c' : Nat} (hm : m1 ≤ m1') (hc : c ≤ c') : FBb B q hs lo hi w5 V E m1' m8 c' w :=
  ⟨h.ki, h.ql, h.fr, h.sm, h.hz, h.bl, h.no, fun i => Nat.le_trans (h.ln i) hc, h.nm, fun e he => Nat.lt_of_lt_of_le (h.t1 e he) hm, h.t8, h.bw, h.old, h.nv, h.ne, h.hl, h.lh⟩
/-- A new round, in the world as it is. -/
theorem FBb.restart (h : FBb B q hs lo hi w5 V E m1 m8 c w) {w6 : World} (hb : Below w.heap.size w w6) : FBb B q hs w.heap.size w6.heap.size w6 V E w.heap.size w.heap.size c w6 :=
  have hz := h.hz
  have hl := h.hl
  have ql := h.ql
  have h5 := h.bw.size
  ⟨h.ki.later hb, lt_of_block h.ki.hq, fun i k hk => .inl ((h.ki.row i).lt k hk), fun _ _ _ => rfl, Nat.le_refl _, h.ki.size, h.no, h.ln, h.nm, fun e he => h.ki.lt 1 e he, fun e he => h.ki.lt 8 e he, Below.refl _ _, fun _ _ _ => rfl, h.nv, h.ne, by have := h.lh; omega, hb.size⟩
theorem FBb.pairs {w2 : World} {z : Nat} {a : Option Addr} {l : List (Int × Int)} {n c' : Nat} (h : FBb B q hs lo hi w5 V E m1 m8 c w) (p : PRo w2 (.slice a n c') l) (hpl : ∀ j, (Value.slice a n c').ownBlock = some j → z ≤ j) (hle : l.length ≤ 100000000) (hb : Below w2.heap.size w2 w5) (hz : w2.heap.size ≤ hi) (hlo : lo ≤ z) (hm : m8 ≤ z) (hzz : z ≤ w2.heap.size) (hc : c ≤ 1000000) (hn : n = l.length) :
    Calls Tryz.prog 24 #[.pointer (some ⟨q, 0, none⟩), .slice a n c'] w fun e w' => e = .returned (.tuple #[]) ∧ ∃ V' E', FBb B q hs lo hi w5 V' E' m1 w2.heap.size (c + 1) w' := by
  subst hn
  have ho := h.keep p hb hz hpl hlo
  have hln := h.ln 8
  have hbl := h.bl
  have hhl := h.hl
  refine (book_pairsF kP kP_ok B q V E w a l.length c' _ h.ki ⟨rfl, rfl, rfl⟩ (fun _ => ho) (fun _ k hk => ⟨by have := hpl k hk; omega, fun x hx e => ?_⟩) (by omega)).mono ?_
  · have := h.t8 x hx
    have := hpl k hk
    omega
  · rintro e w' ⟨rfl, V', E', k, i, d, b, r⟩
    exact ⟨rfl, V', E', h.step k r b (i := 8) (by decide) i d (by omega) (Nat.le_refl _) (Nat.le_trans hm hzz) (fun e => absurd e (by decide)) (fun _ j hj => (World.ownsRow.lt p j hj).2) (fun j hj => by have := hpl j hj; omega)⟩
theorem book_ints0 (q : Nat) (a : Option Addr) (c : Nat) (w : World) : Calls Tryz.prog 26 #[.pointer (some ⟨q, 0, none⟩), .slice a 0 c] w fun e w' => e = .returned (.tuple #[]) ∧ w' = w := by
  go_enter Tryz.func26, Tryz.ntmps26
  go_wp2
  go_end0
  exact ⟨rfl, rfl⟩
/-- A list of numbers, which may be empty. -/
theorem FBb.ints {w2 : World} {z : Nat} {a : Option Addr} {l : List Int} {n c' : Nat} (h : FBb B q hs lo hi w5 V E m1 m8 c w) (p : IL w2 (.slice a n c') l) (hpl : ∀ j, (Value.slice a n c').ownBlock = some j → z ≤ j) (hle : l.length ≤ 100000000) (hb : Below w2.heap.size w2 w5) (hz : w2.heap.size ≤ hi) (hlo : lo ≤ z) (hm : l = [] ∨ m1 ≤ z) (hc : c ≤ 1000000) (hn : n = l.length) :
    Calls Tryz.prog 26 #[.pointer (some ⟨q, 0, none⟩), .slice a n c'] w fun e w' => e = .returned (.tuple #[]) ∧ ∃ V' E' m1', FBb B q hs lo hi w5 V' E' m1' m8 (c + 1) w' ∧ (l = [] → m1' = m1) ∧ (m1' = m1 ∨ m1' = max m1 w2.heap.size) := by
  subst hn
  by_cases h0 : l = []
  · subst h0
    exact (book_ints0 q a c' w).mono fun e w' ⟨q1, q2⟩ => ⟨q1, V, E, m1, by rw [q2]; exact h.up (Nat.le_refl _) (by omega), fun _ => rfl, .inl rfl⟩
  · have hm := hm.resolve_left h0
    have ho := h.keep p hb hz hpl hlo
    have hln := h.ln 1
    have hbl := h.bl
    have hhl := h.hl
    refine (book_intsF kP kP_ok B q V E w a l.length c' _ h.ki ⟨rfl, rfl, rfl⟩ (fun _ => ho) (fun _ k hk => ⟨by have := hpl k hk; omega, fun x hx e => ?_⟩) (by omega)).mono ?_
    · have := h.t1 x hx
      have := hpl k hk
      omega
    · rintro e w' ⟨rfl, V', E', k, i, d, b, r⟩
      exact ⟨rfl, V', E', max m1 w2.heap.size, h.step k r b (i := 1) (by decide) i d (by omega) (Nat.le_max_left _ _) (Nat.le_refl _) (fun _ j hj => by have := (World.ownsRow.lt p j hj).2; omega) (fun e => absurd e (by decide)) (fun j hj => by have := hpl j hj; omega), fun e => absurd e h0, .inr rfl⟩
/-- Which lists of numbers the book has: those that it had, and rows below k. -/
def RwsB (E0 L : List LE) (W : List SlV) (k : Nat) : Prop := ∀ x ∈ L, x ∈ E0 ∨ ∃ j v, j < k ∧ W[j]? = some v ∧ (slV v).ownBlock = some x.g
theorem FBb.row {w2 : World} {z k : Nat} {W : List SlV} {x0 : SlV} {l : List Int} {E0 : List LE} (h : FBb B q hs lo hi w5 V E w2.heap.size m8 c w) (hold : RwsB E0 (E 1) W k) (hE0 : ∀ x ∈ E0, x.g < z) (hlo : lo ≤ z) (hb : Below w2.heap.size w2 w5) (hz : w2.heap.size ≤ hi) (hC : W[k]? = some x0) (hI : IL w2 (slV x0) l) (hj : ∀ j, (slV x0).ownBlock = some j → z ≤ j) (hap : ∀ i v, i < k → W[i]? = some v → ∀ g, (slV v).ownBlock = some g → (slV x0).ownBlock ≠ some g) (hle : l.length ≤ 100000) (hc : c ≤ 1000000) :
    Calls Tryz.prog 26 #[.pointer (some ⟨q, 0, none⟩), slV x0] w fun e w' => e = .returned (.tuple #[]) ∧ ∃ V' E', FBb B q hs lo hi w5 V' E' w2.heap.size m8 (c + 1) w' ∧ RwsB E0 (E' 1) W (k + 1) := by
  obtain ⟨a, n, c'⟩ := x0
  have hn : n = l.length := by
    obtain ⟨a', c2, e, _⟩ := hI.inrowR
    simp only [Value.slice.injEq] at e
    exact e.2.1
  subst hn
  have ho := h.keep (z := z) hI hb hz hj hlo
  have hln := h.ln 1
  have hbl := h.bl
  have hhl := h.hl
  refine (book_intsF kP kP_ok B q V E w a l.length c' _ h.ki ⟨rfl, rfl, rfl⟩ (fun _ => ho) (fun _ g hg => ⟨by have := hj g hg; omega, fun x hx e => ?_⟩) (by omega)).mono ?_
  · rcases hold x hx with r | ⟨j, v, r1, r2, r3⟩
    · have := hE0 x r
      have := hj g hg
      omega
    · exact hap j v r1 r2 x.g r3 (by rw [e]; exact hg)
  · rintro e w' ⟨rfl, V', E', k', i, d, b', r⟩
    refine ⟨rfl, V', E', h.step k' r b' (i := 1) (by decide) i d (by omega) (Nat.le_refl _) (Nat.le_refl _) (fun _ j hj2 => (World.ownsRow.lt hI j hj2).2) (fun e => absurd e (by decide)) (fun j hj2 => by have := hj j hj2; omega), fun x hx => ?_⟩
    have old : x ∈ E 1 → x ∈ E0 ∨ ∃ j v, j < k + 1 ∧ W[j]? = some v ∧ (slV v).ownBlock = some x.g := fun hx => by
      rcases hold x hx with r | ⟨j, v, r1, r2⟩
      · exact .inl r
      · exact .inr ⟨j, v, by omega, r2⟩
    rcases d with d | ⟨g, ea, _, d⟩
    · rw [d] at hx; exact old hx
    · rw [d] at hx
      rcases List.mem_append.1 hx with hx | hx
      · exact old hx
      · obtain rfl := List.mem_singleton.1 hx
        exact .inr ⟨k, _, by omega, hC, by rw [ea]; rfl⟩
set_option maxRecDepth 100000 in
set_option maxHeartbeats 4000000 in
/-- Book.Lists. -/
theorem FBb.lists {w2 : World} {z : Nat} {v : Value} {W : List SlV} {D : List (List Nat)} {a : Option Addr} {n c' : Nat} (h : FBb B q hs lo hi w5 V E m1 m8 c w) (p : LsB z v W D w2) (hv : v = .slice a n c') (hdl : D.length ≤ 4096) (hde : ∀ T ∈ D, T.length ≤ 4096) (hb : Below w2.heap.size w2 w5) (hz : w2.heap.size ≤ hi) (hlo : lo ≤ z) (hm : m1 ≤ z) (hzz : z ≤ w2.heap.size) (hc : c ≤ 900000) :
    Calls Tryz.prog 25 #[.pointer (some ⟨q, 0, none⟩), .slice a n c'] w fun e w' => e = .returned (.tuple #[]) ∧ ∃ V' E', FBb B q hs lo hi w5 V' E' w2.heap.size m8 (c + 4096) w' := by
  subst hv
  obtain ⟨a', c2, hve, hrd⟩ := p.read
  simp only [Value.slice.injEq] at hve
  obtain ⟨rfl, rfl, rfl⟩ := hve
  have S0 : Hid (FBb B q hs lo hi w5 V E w2.heap.size m8 (c + 0) w ∧ RwsB (E 1) (E 1) W 0) := ⟨h.up (by omega) (by omega), fun x hx => .inl hx⟩
  have hwl := p.len
  have ST : Hid (∀ (k : Nat) (V' : Nat → Value) (E' : Nat → List LE) (wr : World), k < D.length → FBb B q hs lo hi w5 V' E' w2.heap.size m8 (c + k) wr → RwsB (E 1) (E' 1) W k → ∃ b ak n ck, a = some ⟨b, 0, none⟩ ∧ wr.cell? ⟨b, k, none⟩ = some (.slice ak n ck) ∧ Hid (Calls Tryz.prog 26 #[.pointer (some ⟨q, 0, none⟩), .slice ak n ck] wr fun e w' => e = .returned (.tuple #[]) ∧ ∃ V1 E1, FBb B q hs lo hi w5 V1 E1 w2.heap.size m8 (c + (k + 1)) w' ∧ RwsB (E 1) (E1 1) W (k + 1))) := fun k V' E' wr hk hF hR => by
    have hW : W[k]? = some (W[k]'(by omega)) := List.getElem?_eq_getElem _
    have hDk : D[k]? = some (D[k]'hk) := List.getElem?_eq_getElem _
    obtain ⟨b, off, hae, hbl, hcell⟩ := hrd.row (by intro e; rw [e] at hwl; simp at hwl; omega)
    have hb0 : off = 0 := by
      obtain ⟨b', c3, he, _, _⟩ := p.row.cell rkSl.len (i := 0) (by omega)
      simp only [Value.slice.injEq] at he
      rw [he.1] at hae
      simp only [Option.some.injEq, Addr.mk.injEq, and_true] at hae
      exact hae.2.symm
    subst hb0
    have hzb : z ≤ b := p.own b (by rw [hae]; rfl)
    refine ⟨b, (W[k]'(by omega)).1, (W[k]'(by omega)).2.1, (W[k]'(by omega)).2.2, hae, ?_, ?_⟩
    · have e := (hF.sm b (by omega) (by omega)).trans (hb.block b hbl)
      have c0 := hcell k _ hW
      rw [Nat.zero_add] at c0
      exact (World.cell?_of_block e).trans c0
    · exact hF.row hR (fun x hx => by have := h.t1 x hx; omega) hlo hb hz hW (p.il k _ _ hW hDk) (p.lo _ (List.mem_of_getElem? hW)) (fun i v hi hv g hg => p.nd i k v _ hv hW (by omega) g hg) (by rw [nI_len]; have := hde _ (List.mem_of_getElem? hDk); omega) (by omega)
  have hfin : Hid (∀ V' E' wr, FBb B q hs lo hi w5 V' E' w2.heap.size m8 (c + D.length) wr → FBb B q hs lo hi w5 V' E' w2.heap.size m8 (c + 4096) wr) := fun V' E' wr hF => hF.up (Nat.le_refl _) (by omega)
  clear h p hb hz hm hlo hrd hwl
  go_enter Tryz.func25, Tryz.ntmps25
  go_wp2
  go_loopw [4] (fun i wr => ∃ (k : Nat) (V' : Nat → Value) (E' : Nat → List LE), k ≤ D.length ∧ i = .int .i64 k ∧ FBb B q hs lo hi w5 V' E' w2.heap.size m8 (c + k) wr ∧ RwsB (E 1) (E' 1) W k) (fun i _ => D.length - (intOf i).toNat)
  case atStart => exact ⟨0, V, E, Nat.zero_le _, rfl, S0.out⟩
  case round =>
    clear S0
    obtain ⟨k, V', E', hk, rfl, hF, hR⟩ := hrel
    by_cases hlt : k < D.length
    · have klt : (k : Int) < (D.length : Int) := by omega
      obtain ⟨b, ak, n, ck, hae, c0, CALL⟩ := ST.out k V' E' wr hlt hF hR
      subst hae
      clear hF hR ST
      go_wp2_with (go_at_call 26; refine CALL.out.mono ?_; rintro e w4 ⟨rfl, V4, E4, k4, r4⟩)
      go_roundw
      case rel => exact ⟨k + 1, V4, E4, by omega, by go_num, k4, r4⟩
      case measure => simp [intOf]; omega
    · obtain rfl : k = D.length := by omega
      have HF : Hid (FBb B q hs lo hi w5 V' E' w2.heap.size m8 (c + 4096) wr) := hfin.out _ _ _ hF
      clear hF hR
      go_wp2
      go_end0
      exact ⟨rfl, V', E', HF.out⟩
end
set_option maxRecDepth 100000 in
set_option maxHeartbeats 4000000 in
/-- Book.Lists of empty lists. -/
theorem lists_nil {w : World} (q : Nat) (a : Option Addr) (n c : Nat) (L : List (List Int)) (hL : LrwB w a L) (hn : n = L.length) (hnl : L.length ≤ 1048576) (he : ∀ l ∈ L, l = []) :
    Calls Tryz.prog 25 #[.pointer (some ⟨q, 0, none⟩), .slice a n c] w fun e w' => e = .returned (.tuple #[]) ∧ w' = w := by
  subst hn
  have HL : Hid (LrwB w a L) := hL
  have HEM : Hid (∀ l ∈ L, l = []) := he
  have B0 : Hid (∀ (a : Option Addr) (c : Nat) (w : World), Calls Tryz.prog 26 #[.pointer (some ⟨q, 0, none⟩), .slice a 0 c] w fun e w' => e = .returned (.tuple #[]) ∧ w' = w) := book_ints0 q
  clear hL he
  go_enter Tryz.func25, Tryz.ntmps25
  go_wp2
  go_loopw [4] (fun i wr => ∃ (k : Nat), k ≤ L.length ∧ i = .int .i64 k ∧ w = wr) (fun i _ => L.length - (intOf i).toNat)
  case atStart => exact ⟨0, Nat.zero_le _, rfl, rfl⟩
  case round =>
    obtain ⟨k, hk, rfl, rfl⟩ := hrel
    by_cases hlt : k < L.length
    · have klt : (k : Int) < (L.length : Int) := by omega
      obtain ⟨b, off, la, lc, hae, _, c0, _⟩ := HL.out.atR hlt
      have e0 : L.getD k [] = [] := HEM.out _ (by rw [List.getD_eq_getElem?_getD, List.getElem?_eq_getElem hlt]; exact List.getElem_mem hlt)
      rw [e0] at c0
      simp only [List.length_nil] at c0
      subst hae
      clear e0
      go_wp2_with (go_at_call 26; refine (B0.out _ _ _).mono ?_; rintro e w4 ⟨rfl, hz⟩; rw [hz]; clear hz w4)
      go_roundw
      case rel => exact ⟨k + 1, by omega, by go_num, trivial⟩
      case measure => simp [intOf]; omega
    · obtain rfl : k = L.length := by omega
      go_wp2
      go_end0
      exact ⟨rfl, rfl⟩
end Go.Proofs.YtcgghlaifmlpiaaGreatDoor
namespace Go.Proofs.YtcgghlaifmlpiaaGreatDoor
set_option linter.unusedVariables false
open Go.RowKit Go.Shelf

/-- A set that no call made. -/
def NZ (w : World) (p : Option Addr) : Prop := p = none ∨ ∃ z, p = some ⟨z, 0, none⟩ ∧ w.heap[z]? = some (.cells #[.int .i64 0, .slice none 0 0] 77)
theorem NZ.later {w w' : World} {p : Option Addr} (h : NZ w p) (hb : Below w.heap.size w w') : NZ w' p := by
  rcases h with h | ⟨z, h, hz⟩
  · exact Or.inl h
  · refine Or.inr ⟨z, h, ?_⟩
    rw [← hz]
    exact hb.block z (by have := Array.getElem?_eq_some_iff.1 hz; obtain ⟨q, -⟩ := this; exact q)
set_option maxRecDepth 100000 in
set_option maxHeartbeats 4000000 in
theorem size_NZ {w : World} {p : Option Addr} (h : NZ w p) : Calls Tryz.prog 73 #[.pointer p] w fun e w' => e = .returned (.int .i64 0) ∧ w' = w := by
  rcases h with rfl | ⟨z, rfl, hz⟩
  · go_enter Tryz.func73, Tryz.ntmps73
    go_wp2
    go_ret
    exact ⟨rfl, rfl⟩
  · have c0 : w.cell? ⟨z, 0, none⟩ = some (.int .i64 0) := (cellq_any hz).trans rfl
    have c1 : w.cell? ⟨z, 1, none⟩ = some (.slice none 0 0) := (cellq_any hz).trans rfl
    clear hz
    go_enter Tryz.func73, Tryz.ntmps73
    go_wp2
    go_ret
    exact ⟨rfl, rfl⟩
set_option maxRecDepth 100000 in
set_option maxHeartbeats 4000000 in
theorem held_NZ {w : World} {p : Option Addr} (h : NZ w p) : Calls Tryz.prog 55 #[.pointer p] w fun e w' => e = .returned (.slice none 0 0) ∧ w' = w := by
  rcases h with rfl | ⟨z, rfl, hz⟩
  · go_enter Tryz.func55, Tryz.ntmps55
    go_wp2
    go_ret
    exact ⟨rfl, rfl⟩
  · have c0 : w.cell? ⟨z, 0, none⟩ = some (.int .i64 0) := (cellq_any hz).trans rfl
    have c1 : w.cell? ⟨z, 1, none⟩ = some (.slice none 0 0) := (cellq_any hz).trans rfl
    clear hz
    go_enter Tryz.func55, Tryz.ntmps55
    go_wp2
    go_ret
    exact ⟨rfl, rfl⟩
set_option maxRecDepth 100000 in
set_option maxHeartbeats 4000000 in
theorem wordAt_nil (i : Nat) (w : World) : Calls Tryz.prog 124 #[.slice none 0 0, .int .i64 (i : Int)] w fun e w' => e = .returned (.int .u64 (wdB 0 i : Int)) ∧ w' = w := by
  rw [wdB_zero]
  have hi2 : ¬ (i : Int) < 0 := by omega
  go_enter Tryz.func124, Tryz.ntmps124
  go_wp2
  go_ret
  exact ⟨rfl, rfl⟩
set_option maxRecDepth 100000 in
set_option maxHeartbeats 4000000 in
theorem has_NZ0 {w : World} {p : Option Addr} (h : NZ w p) (x : Int) (hx : (decide (0 ≤ x) && decide (x < 0)) = false) : Calls Tryz.prog 51 #[.pointer p, .int .i64 x] w fun e w' => e = .returned (.bool false) ∧ Below w.heap.size w w' := by
  have SZ : Hid (∀ w', w' = w.drew → Calls Tryz.prog 73 #[.pointer p] w' fun e w'' => e = .returned (.int .i64 0) ∧ w'' = w.drew) := fun w' e => by
    subst e
    exact size_NZ (h.later (Below.refl _ _).drew)
  have BL : Hid (∀ w', w' = w.drew → Calls Tryz.prog 83 #[.int .i64 x, .int .i64 0] w' fun e w'' => e = .returned (.bool false) ∧ w'' = w.drew) := fun w' e => by
    subst e
    have := below_SB x 0 w.drew
    rwa [hx] at this
  clear h hx
  go_enter Tryz.func51, Tryz.ntmps51
  go_wp2
  refine wp_region_q (C := fun w' => w' = w.drew) (by kernel_rfl) (by kernel_rfl) rfl ?_
  refine qt_yes (v := ?_) (by rfl) ?_ ?_
  rotate_left
  · (intro w hSw; clear hSw; go_simp; with_reducible rfl)
  (try simp only [Act.put, List.setIfInBounds_toArray, List.set_cons_zero, List.set_cons_succ])
  refine qt_yes (v := ?_) (by rfl) ?_ ?_
  rotate_left
  · (intro w hSw; clear hSw; go_simp; with_reducible rfl)
  (try simp only [Act.put, List.setIfInBounds_toArray, List.set_cons_zero, List.set_cons_succ])
  refine qt_call (v := .int .i64 0) 73 #[.pointer p] (by rfl) (by intro w hSw; clear hSw; go_simp) SZ.out ?_
  (try simp only [Act.put, List.setIfInBounds_toArray, List.set_cons_zero, List.set_cons_succ])
  refine qt_call (v := .bool false) 83 #[.int .i64 x, .int .i64 0] (by rfl) (by intro w hSw; clear hSw; go_simp) BL.out ?_
  (try simp only [Act.put, List.setIfInBounds_toArray, List.set_cons_zero, List.set_cons_succ])
  refine qt_yes (v := ?_) (by rfl) ?_ ?_
  rotate_left
  · (intro w hSw; clear hSw; go_simp; with_reducible rfl)
  (try simp only [Act.put, List.setIfInBounds_toArray, List.set_cons_zero, List.set_cons_succ])
  refine qt_no (by rfl) ?_
  (try simp only [Act.put, List.setIfInBounds_toArray, List.set_cons_zero, List.set_cons_succ])
  refine qt_no (by rfl) ?_
  (try simp only [Act.put, List.setIfInBounds_toArray, List.set_cons_zero, List.set_cons_succ])
  refine qt_no (by rfl) ?_
  (try simp only [Act.put, List.setIfInBounds_toArray, List.set_cons_zero, List.set_cons_succ])
  refine qt_no (by rfl) ?_
  (try simp only [Act.put, List.setIfInBounds_toArray, List.set_cons_zero, List.set_cons_succ])
  refine qt_no (by rfl) ?_
  (try simp only [Act.put, List.setIfInBounds_toArray, List.set_cons_zero, List.set_cons_succ])
  refine qt_no (by rfl) ?_
  (try simp only [Act.put, List.setIfInBounds_toArray, List.set_cons_zero, List.set_cons_succ])
  refine qt_no (by rfl) ?_
  (try simp only [Act.put, List.setIfInBounds_toArray, List.set_cons_zero, List.set_cons_succ])
  refine qt_no (by rfl) ?_
  (try simp only [Act.put, List.setIfInBounds_toArray, List.set_cons_zero, List.set_cons_succ])
  refine qt_no (by rfl) ?_
  (try simp only [Act.put, List.setIfInBounds_toArray, List.set_cons_zero, List.set_cons_succ])
  refine qt_no (by rfl) ?_
  (try simp only [Act.put, List.setIfInBounds_toArray, List.set_cons_zero, List.set_cons_succ])
  refine qt_no (by rfl) ?_
  (try simp only [Act.put, List.setIfInBounds_toArray, List.set_cons_zero, List.set_cons_succ])
  refine qt_no (by rfl) ?_
  (try simp only [Act.put, List.setIfInBounds_toArray, List.set_cons_zero, List.set_cons_succ])
  refine qt_yes (v := ?_) (by rfl) ?_ ?_
  rotate_left
  · (intro w hSw; clear hSw; go_simp; with_reducible rfl)
  (try simp only [Act.put, List.setIfInBounds_toArray, List.set_cons_zero, List.set_cons_succ])
  refine qt_yes (v := ?_) (by rfl) ?_ ?_
  rotate_left
  · (intro w hSw; clear hSw; go_simp; with_reducible rfl)
  (try simp only [Act.put, List.setIfInBounds_toArray, List.set_cons_zero, List.set_cons_succ])
  refine qt_nil ?_
  intro w' hw'
  subst hw'
  go_wp2
  go_ret
  exact ⟨rfl, (Below.refl _ _).drew⟩
theorem below0 (x : Int) : (decide (0 ≤ x) && decide (x < 0)) = false := by
  by_cases h : 0 ≤ x
  · rw [decide_eq_false (show ¬ x < 0 by omega), Bool.and_false]
  · rw [decide_eq_false h]; rfl
theorem has_NZ {w : World} {p : Option Addr} (h : NZ w p) (x : Int) : Calls Tryz.prog 51 #[.pointer p, .int .i64 x] w fun e w' => e = .returned (.bool false) ∧ Below w.heap.size w w' := has_NZ0 h x (below0 x)
set_option maxRecDepth 100000 in
set_option maxHeartbeats 4000000 in
theorem add_NZ0 {w : World} {p : Option Addr} (h : NZ w p) (x : Int) (hx : (decide (0 ≤ x) && decide (x < 0)) = false) : Calls Tryz.prog 50 #[.pointer p, .int .i64 x] w fun e w' => e = .returned (.bool false) ∧ Below w.heap.size w w' := by
  have SZ : Hid (Calls Tryz.prog 73 #[.pointer p] w fun e w'' => e = .returned (.int .i64 0) ∧ w'' = w) := size_NZ h
  have BL : Hid (Calls Tryz.prog 83 #[.int .i64 x, .int .i64 0] w fun e w'' => e = .returned (.bool false) ∧ w'' = w) := by
    have := below_SB x 0 w
    rwa [hx] at this
  clear h hx
  go_enter Tryz.func50, Tryz.ntmps50
  go_wp2_with (first
    | (go_at_call 73; refine SZ.out.mono ?_; rintro e w1 ⟨rfl, hz⟩; rw [hz]; clear hz w1)
    | (go_at_call 83; refine BL.out.mono ?_; rintro e w1 ⟨rfl, hz⟩; rw [hz]; clear hz w1))
  go_ret
  exact ⟨rfl, Below.refl _ _⟩
theorem add_NZ {w : World} {p : Option Addr} (h : NZ w p) (x : Int) : Calls Tryz.prog 50 #[.pointer p, .int .i64 x] w fun e w' => e = .returned (.bool false) ∧ Below w.heap.size w w' := add_NZ0 h x (below0 x)
set_option maxRecDepth 100000 in
set_option maxHeartbeats 4000000 in
theorem remove_NZ {w : World} {p : Option Addr} (h : NZ w p) (x : Int) : Calls Tryz.prog 74 #[.pointer p, .int .i64 x] w fun e w' => e = .returned (.bool false) ∧ Below w.heap.size w w' := by
  have HS : Hid (Calls Tryz.prog 51 #[.pointer p, .int .i64 x] w fun e w'' => e = .returned (.bool false) ∧ Below w.heap.size w w'') := has_NZ h x
  clear h
  go_enter Tryz.func74, Tryz.ntmps74
  go_wp2_with (go_at_call 51; refine HS.out.mono ?_; rintro e w1 ⟨rfl, b1⟩; have B1 : Hid (Below w.heap.size w w1) := b1; clear b1)
  go_ret
  exact ⟨rfl, B1.out⟩
set_option maxRecDepth 100000 in
set_option maxHeartbeats 4000000 in
theorem change_NZ {w : World} {p : Option Addr} (f tp ot : Value) (h : NZ w p) (HT : Calls Tryz.prog 55 #[tp] w fun e w' => e = .returned ot ∧ w' = w) : Calls Tryz.prog 109 #[.pointer p, tp, f] w fun e w' => e = .returned (.bool false) ∧ w' = w := by
  have HS : Hid (Calls Tryz.prog 55 #[.pointer p] w fun e w' => e = .returned (.slice none 0 0) ∧ w' = w) := held_NZ h
  have HH : Hid (∀ q v, (q = Value.pointer p ∧ v = Value.slice none 0 0) ∨ (q = tp ∧ v = ot) → Calls Tryz.prog 55 #[q] w fun e w' => e = .returned v ∧ w' = w) := fun q v r => by
    rcases r with ⟨rfl, rfl⟩ | ⟨rfl, rfl⟩
    · exact HS.out
    · exact HT
  clear HS HT h
  go_enter Tryz.func109, Tryz.ntmps109
  go_wp2_with (go_at_call 55; refine (HH.out _ _ (by first | (with_reducible exact Or.inl ⟨rfl, rfl⟩) | (with_reducible exact Or.inr ⟨rfl, rfl⟩))).mono ?_; rintro e w1 ⟨rfl, hz⟩; rw [hz]; clear hz w1)
  go_loopw [9, 18] (fun z9 z18 wr => z9 = .bool false ∧ z18 = .int .i64 0 ∧ w = wr) (fun _ _ _ => 0)
  case atStart => exact ⟨rfl, rfl, rfl⟩
  case round =>
    obtain ⟨rfl, rfl, rfl⟩ := hrel
    go_wp2
    go_ret
    exact ⟨rfl, rfl⟩
set_option maxRecDepth 100000 in
set_option maxHeartbeats 4000000 in
theorem union_NZ {w : World} {p : Option Addr} (tp ot : Value) (h : NZ w p) (HT : Calls Tryz.prog 55 #[tp] w fun e w' => e = .returned ot ∧ w' = w) : Calls Tryz.prog 75 #[.pointer p, tp] w fun e w' => e = .returned (.bool false) ∧ w' = w := by
  have CH : Hid (Calls Tryz.prog 109 #[.pointer p, tp, .func (.func 110) #[] #[]] w fun e w' => e = .returned (.bool false) ∧ w' = w) := change_NZ _ tp ot h HT
  clear h HT
  go_enter Tryz.func75, Tryz.ntmps75
  go_wp2_with (go_at_call 109; refine CH.out.mono ?_; rintro e w1 ⟨rfl, hz⟩; rw [hz]; clear hz w1)
  go_ret
  exact ⟨rfl, rfl⟩
set_option maxRecDepth 100000 in
set_option maxHeartbeats 4000000 in
theorem meet_NZ {w : World} {p : Option Addr} (tp ot : Value) (h : NZ w p) (HT : Calls Tryz.prog 55 #[tp] w fun e w' => e = .returned ot ∧ w' = w) : Calls Tryz.prog 76 #[.pointer p, tp] w fun e w' => e = .returned (.bool false) ∧ w' = w := by
  have CH : Hid (Calls Tryz.prog 109 #[.pointer p, tp, .func (.func 111) #[] #[]] w fun e w' => e = .returned (.bool false) ∧ w' = w) := change_NZ _ tp ot h HT
  clear h HT
  go_enter Tryz.func76, Tryz.ntmps76
  go_wp2_with (go_at_call 109; refine CH.out.mono ?_; rintro e w1 ⟨rfl, hz⟩; rw [hz]; clear hz w1)
  go_ret
  exact ⟨rfl, rfl⟩
set_option maxRecDepth 100000 in
set_option maxHeartbeats 4000000 in
theorem minus_NZ {w : World} {p : Option Addr} (tp ot : Value) (h : NZ w p) (HT : Calls Tryz.prog 55 #[tp] w fun e w' => e = .returned ot ∧ w' = w) : Calls Tryz.prog 77 #[.pointer p, tp] w fun e w' => e = .returned (.bool false) ∧ w' = w := by
  have CH : Hid (Calls Tryz.prog 109 #[.pointer p, tp, .func (.func 112) #[] #[]] w fun e w' => e = .returned (.bool false) ∧ w' = w) := change_NZ _ tp ot h HT
  clear h HT
  go_enter Tryz.func77, Tryz.ntmps77
  go_wp2_with (go_at_call 109; refine CH.out.mono ?_; rintro e w1 ⟨rfl, hz⟩; rw [hz]; clear hz w1)
  go_ret
  exact ⟨rfl, rfl⟩
set_option maxRecDepth 100000 in
set_option maxHeartbeats 4000000 in
theorem count_NZ {w : World} {p : Option Addr} (h : NZ w p) : Calls Tryz.prog 52 #[.pointer p] w fun e w' => e = .returned (.int .i64 0) ∧ w' = w := by
  have HS : Hid (Calls Tryz.prog 55 #[.pointer p] w fun e w' => e = .returned (.slice none 0 0) ∧ w' = w) := held_NZ h
  clear h
  go_enter Tryz.func52, Tryz.ntmps52
  go_wp2_with (go_at_call 55; refine HS.out.mono ?_; rintro e w1 ⟨rfl, hz⟩; rw [hz]; clear hz w1)
  clear HS
  go_loopw [3, 9] (fun z3 z9 wr => z3 = .int .i64 0 ∧ z9 = .int .i64 0 ∧ w = wr) (fun _ _ _ => 0)
  case atStart => exact ⟨rfl, rfl, rfl⟩
  case round =>
    obtain ⟨rfl, rfl, rfl⟩ := hrel
    go_wp2
    go_ret
    exact ⟨rfl, rfl⟩
set_option maxRecDepth 100000 in
set_option maxHeartbeats 4000000 in
theorem list_NZ {w : World} {p : Option Addr} (h : NZ w p) : Calls Tryz.prog 23 #[.pointer p] w fun e w' => (∃ c, e = .returned (.slice (some ⟨w.heap.size, 0, none⟩) 0 c)) ∧ Below w.heap.size w w' := by
  obtain ⟨pc, hpc⟩ : ∃ pc : Nat, pc = 0 := ⟨_, rfl⟩
  have HC : Hid (Calls Tryz.prog 52 #[.pointer p] w fun e w' => e = .returned (.int .i64 (pc : Int)) ∧ w' = w) := by rw [hpc]; exact count_NZ h
  have hpm : pc ≤ 100 := by omega
  have hmk := make_cap pc (by omega)
  have BM : Hid (Below w.heap.size w (w.alloc (.cells (madeCells #[.int .i64 0] pc) 3))) := below_alloc w _
  have HS : Hid (Calls Tryz.prog 55 #[.pointer p] (w.alloc (.cells (madeCells #[.int .i64 0] pc) 3)) fun e w' => e = .returned (.slice none 0 0) ∧ w' = (w.alloc (.cells (madeCells #[.int .i64 0] pc) 3))) := held_NZ (h.later (below_alloc w _))
  clear h hpc
  go_enter Tryz.func23, Tryz.ntmps23
  go_wp2_with (first
    | (go_at_call 52; refine HC.out.mono ?_; rintro e w1 ⟨rfl, hz⟩; rw [hz]; clear hz w1)
    | (go_at_call 55; refine HS.out.mono ?_; rintro e w1 ⟨rfl, hz⟩; rw [hz]; clear hz w1))
  clear HS HC hmk
  go_loopw [3, 12] (fun z3 z12 wr => z3 = .slice (some ⟨w.heap.size, 0, none⟩) 0 pc ∧ z12 = .int .i64 0 ∧ Below w.heap.size w wr) (fun _ _ _ => 0)
  case atStart => exact ⟨rfl, rfl, BM.out⟩
  case round =>
    obtain ⟨rfl, rfl, hb⟩ := hrel
    have HB : Hid _ := hb
    clear hb BM
    go_wp2
    go_ret
    exact ⟨⟨_, rfl⟩, HB.out⟩
set_option maxRecDepth 100000 in
set_option maxHeartbeats 4000000 in
theorem copy_NZ {w : World} {p : Option Addr} (h : NZ w p) : Calls Tryz.prog 78 #[.pointer p] w fun e w' => e = .returned (.pointer none) ∧ w' = w := by
  have HS : Hid (Calls Tryz.prog 55 #[.pointer p] w fun e w' => e = .returned (.slice none 0 0) ∧ w' = w) := held_NZ h
  clear h
  go_enter Tryz.func78, Tryz.ntmps78
  go_wp2_with (go_at_call 55; refine HS.out.mono ?_; rintro e w1 ⟨rfl, hz⟩; rw [hz]; clear hz w1)
  go_ret
  exact ⟨rfl, rfl⟩
end Go.Proofs.YtcgghlaifmlpiaaGreatDoor
namespace Go.Proofs.YtcgghlaifmlpiaaGreatDoor
set_option linter.unusedVariables false
open Go.RowKit Go.Shelf

set_option maxRecDepth 100000 in
set_option maxHeartbeats 4000000 in
theorem same_gen {w : World} {p1 p2 a1 a2 : Option Addr} {n1 n2 N M : Nat} (hnw : n1 ≤ 65) (hnw2 : n2 ≤ 65)
    (HS : Calls Tryz.prog 55 #[.pointer p1] w fun e w' => e = .returned (.slice a1 n1 n1) ∧ w' = w)
    (HT2 : Calls Tryz.prog 55 #[.pointer p2] w fun e w' => e = .returned (.slice a2 n2 n2) ∧ w' = w)
    (WA0 : ∀ i : Nat, Calls Tryz.prog 124 #[.slice a1 n1 n1, .int .i64 (i : Int)] w fun e w' => e = .returned (.int .u64 (wdB N i : Int)) ∧ w' = w)
    (WB0 : ∀ i : Nat, Calls Tryz.prog 124 #[.slice a2 n2 n2, .int .i64 (i : Int)] w fun e w' => e = .returned (.int .u64 (wdB M i : Int)) ∧ w' = w)
    (hall : (∀ i, i < max n1 n2 → wdB (N ^^^ M) i = 0) → N ^^^ M = 0) :
    Calls Tryz.prog 113 #[.pointer p1, .pointer p2, .func (.func 115) #[] #[]] w fun e w' => e = .returned (.bool (decide (N ^^^ M = 0))) ∧ w' = w := by
  have HH : Hid (∀ p v, (p = Value.pointer p1 ∧ v = Value.slice a1 n1 n1) ∨ (p = Value.pointer p2 ∧ v = Value.slice a2 n2 n2) → Calls Tryz.prog 55 #[p] w fun e w' => e = .returned v ∧ w' = w) := fun p v q => by
    rcases q with ⟨rfl, rfl⟩ | ⟨rfl, rfl⟩
    · exact HS
    · exact HT2
  clear HS HT2
  have WA : Hid (∀ i : Nat, Calls Tryz.prog 124 #[.slice a1 n1 n1, .int .i64 (i : Int)] w fun e w' => e = .returned (.int .u64 (wdB N i : Int)) ∧ w' = w) := WA0
  have WB : Hid (∀ i : Nat, Calls Tryz.prog 124 #[.slice a2 n2 n2, .int .i64 (i : Int)] w fun e w' => e = .returned (.int .u64 (wdB M i : Int)) ∧ w' = w) := WB0
  have HALL : Hid ((∀ i, i < max n1 n2 → wdB (N ^^^ M) i = 0) → N ^^^ M = 0) := hall
  have HWD : Hid (∀ i, wdB (N ^^^ M) i = wdB N i ^^^ wdB M i) := fun i => wd_xor N M i
  clear WA0 WB0 hall
  generalize N ^^^ M = X at *
  by_cases hmm : n1 < n2
  · rw [Nat.max_eq_right (Nat.le_of_lt hmm)] at HALL
    go_enter Tryz.func113, Tryz.ntmps113
    go_wp2_with (go_at_call 55; refine (HH.out _ _ (by first | (with_reducible exact Or.inl ⟨rfl, rfl⟩) | (with_reducible exact Or.inr ⟨rfl, rfl⟩))).mono ?_; rintro e w1 ⟨rfl, hz⟩; rw [hz]; clear hz w1)
    clear HH
    go_loopw [19] (fun z wr => ∃ i : Nat, i ≤ n2 ∧ z = .int .i64 (i : Int) ∧ (∀ j, j < i → wdB X j = 0) ∧ w = wr) (fun z _ => n2 - (intOf z).toNat)
    case atStart => exact ⟨0, Nat.zero_le _, rfl, fun j hj => absurd hj (Nat.not_lt_zero j), rfl⟩
    case round =>
      obtain ⟨i, hi, rfl, hz0, rfl⟩ := hrel
      have HZ : Hid (∀ j, j < i → wdB X j = 0) := hz0
      clear hz0
      by_cases hlt : i < n2
      · have ilt : (i : Int) < (n2 : Int) := by omega
        have W1 : Hid (Calls Tryz.prog 124 #[.slice a1 n1 n1, .int .i64 (i : Int)] w fun e w' => e = .returned (.int .u64 (wdB N i : Int)) ∧ w' = w) := WA.out i
        have W2 : Hid (Calls Tryz.prog 124 #[.slice a2 n2 n2, .int .i64 (i : Int)] w fun e w' => e = .returned (.int .u64 (wdB M i : Int)) ∧ w' = w) := WB.out i
        have DO : Hid (Calls Tryz.prog 115 #[.int .u64 (wdB N i : Int), .int .u64 (wdB M i : Int)] w fun e w' => e = .returned (.int .u64 ((wdB N i ^^^ wdB M i : Nat) : Int)) ∧ w' = w) := same1_S (wdB N i) (wdB M i) (wdB_lt N i) (wdB_lt M i) w
        have hwd := HWD.out i
        rw [← hwd] at DO
        clear hwd
        have WW : Hid (∀ v x, (v = Value.slice a1 n1 n1 ∧ x = wdB N i) ∨ (v = Value.slice a2 n2 n2 ∧ x = wdB M i) → Calls Tryz.prog 124 #[v, .int .i64 (i : Int)] w fun e w' => e = .returned (.int .u64 (x : Int)) ∧ w' = w) := fun v x q => by
          rcases q with ⟨rfl, rfl⟩ | ⟨rfl, rfl⟩
          · exact W1.out
          · exact W2.out
        clear W1 W2
        generalize wdB N i = A at *
        generalize wdB M i = B at *
        by_cases hD : wdB X i = 0
        · have e0 : ((wdB X i : Int) != 0) = false := by rw [hD]; rfl
          have HZ2 : Hid (∀ j, j < i + 1 → wdB X j = 0) := fun j hj => by
            by_cases q : j = i
            · rw [q]; exact hD
            · exact HZ.out j (by omega)
          rw [hD] at DO
          clear hD e0
          go_wp2_with (first
            | (go_at_call 124; refine (WW.out _ _ (by first | (with_reducible exact Or.inl ⟨rfl, rfl⟩) | (with_reducible exact Or.inr ⟨rfl, rfl⟩))).mono ?_; rintro e w1 ⟨rfl, hz⟩; rw [hz]; clear hz w1)
            | (go_at_call 115; refine DO.out.mono ?_; rintro e w1 ⟨rfl, hz⟩; rw [hz]; clear hz w1))
          go_roundw
          case rel => exact ⟨i + 1, by omega, by go_num, HZ2.out, trivial⟩
          case measure => simp [intOf]; omega
        · have HX : Hid (decide (X = 0) = false) := decide_eq_false (fun q => hD (by rw [q, wdB_zero]))
          obtain ⟨D, hDe⟩ : ∃ D, wdB X i = D := ⟨_, rfl⟩
          rw [hDe] at DO hD
          have e0 : ((D : Int) != 0) = true := by simpa using hD
          have e1 : ((D : Int) == 0) = false := by simpa using hD
          clear hD hDe
          go_wp2_with (first
            | (go_at_call 124; refine (WW.out _ _ (by first | (with_reducible exact Or.inl ⟨rfl, rfl⟩) | (with_reducible exact Or.inr ⟨rfl, rfl⟩))).mono ?_; rintro e w1 ⟨rfl, hz⟩; rw [hz]; clear hz w1)
            | (go_at_call 115; refine DO.out.mono ?_; rintro e w1 ⟨rfl, hz⟩; rw [hz]; clear hz w1))
          go_ret
          refine ⟨?_, rfl⟩
          rw [HX.out]
          rfl
      · obtain rfl : i = n2 := by omega
        have ilt : ¬ (i : Int) < (i : Int) := by omega
        have HX : Hid (decide (X = 0) = true) := decide_eq_true (HALL.out HZ.out)
        go_wp2
        go_ret
        refine ⟨?_, rfl⟩
        rw [HX.out]
        rfl
  · rw [Nat.max_eq_left (Nat.not_lt.1 hmm)] at HALL
    go_enter Tryz.func113, Tryz.ntmps113
    go_wp2_with (go_at_call 55; refine (HH.out _ _ (by first | (with_reducible exact Or.inl ⟨rfl, rfl⟩) | (with_reducible exact Or.inr ⟨rfl, rfl⟩))).mono ?_; rintro e w1 ⟨rfl, hz⟩; rw [hz]; clear hz w1)
    clear HH
    go_loopw [19] (fun z wr => ∃ i : Nat, i ≤ n1 ∧ z = .int .i64 (i : Int) ∧ (∀ j, j < i → wdB X j = 0) ∧ w = wr) (fun z _ => n1 - (intOf z).toNat)
    case atStart => exact ⟨0, Nat.zero_le _, rfl, fun j hj => absurd hj (Nat.not_lt_zero j), rfl⟩
    case round =>
      obtain ⟨i, hi, rfl, hz0, rfl⟩ := hrel
      have HZ : Hid (∀ j, j < i → wdB X j = 0) := hz0
      clear hz0
      by_cases hlt : i < n1
      · have ilt : (i : Int) < (n1 : Int) := by omega
        have W1 : Hid (Calls Tryz.prog 124 #[.slice a1 n1 n1, .int .i64 (i : Int)] w fun e w' => e = .returned (.int .u64 (wdB N i : Int)) ∧ w' = w) := WA.out i
        have W2 : Hid (Calls Tryz.prog 124 #[.slice a2 n2 n2, .int .i64 (i : Int)] w fun e w' => e = .returned (.int .u64 (wdB M i : Int)) ∧ w' = w) := WB.out i
        have DO : Hid (Calls Tryz.prog 115 #[.int .u64 (wdB N i : Int), .int .u64 (wdB M i : Int)] w fun e w' => e = .returned (.int .u64 ((wdB N i ^^^ wdB M i : Nat) : Int)) ∧ w' = w) := same1_S (wdB N i) (wdB M i) (wdB_lt N i) (wdB_lt M i) w
        have hwd := HWD.out i
        rw [← hwd] at DO
        clear hwd
        have WW : Hid (∀ v x, (v = Value.slice a1 n1 n1 ∧ x = wdB N i) ∨ (v = Value.slice a2 n2 n2 ∧ x = wdB M i) → Calls Tryz.prog 124 #[v, .int .i64 (i : Int)] w fun e w' => e = .returned (.int .u64 (x : Int)) ∧ w' = w) := fun v x q => by
          rcases q with ⟨rfl, rfl⟩ | ⟨rfl, rfl⟩
          · exact W1.out
          · exact W2.out
        clear W1 W2
        generalize wdB N i = A at *
        generalize wdB M i = B at *
        by_cases hD : wdB X i = 0
        · have e0 : ((wdB X i : Int) != 0) = false := by rw [hD]; rfl
          have HZ2 : Hid (∀ j, j < i + 1 → wdB X j = 0) := fun j hj => by
            by_cases q : j = i
            · rw [q]; exact hD
            · exact HZ.out j (by omega)
          rw [hD] at DO
          clear hD e0
          go_wp2_with (first
            | (go_at_call 124; refine (WW.out _ _ (by first | (with_reducible exact Or.inl ⟨rfl, rfl⟩) | (with_reducible exact Or.inr ⟨rfl, rfl⟩))).mono ?_; rintro e w1 ⟨rfl, hz⟩; rw [hz]; clear hz w1)
            | (go_at_call 115; refine DO.out.mono ?_; rintro e w1 ⟨rfl, hz⟩; rw [hz]; clear hz w1))
          go_roundw
          case rel => exact ⟨i + 1, by omega, by go_num, HZ2.out, trivial⟩
          case measure => simp [intOf]; omega
        · have HX : Hid (decide (X = 0) = false) := decide_eq_false (fun q => hD (by rw [q, wdB_zero]))
          obtain ⟨D, hDe⟩ : ∃ D, wdB X i = D := ⟨_, rfl⟩
          rw [hDe] at DO hD
          have e0 : ((D : Int) != 0) = true := by simpa using hD
          have e1 : ((D : Int) == 0) = false := by simpa using hD
          clear hD hDe
          go_wp2_with (first
            | (go_at_call 124; refine (WW.out _ _ (by first | (with_reducible exact Or.inl ⟨rfl, rfl⟩) | (with_reducible exact Or.inr ⟨rfl, rfl⟩))).mono ?_; rintro e w1 ⟨rfl, hz⟩; rw [hz]; clear hz w1)
            | (go_at_call 115; refine DO.out.mono ?_; rintro e w1 ⟨rfl, hz⟩; rw [hz]; clear hz w1))
          go_ret
          refine ⟨?_, rfl⟩
          rw [HX.out]
          rfl
      · obtain rfl : i = n1 := by omega
        have ilt : ¬ (i : Int) < (i : Int) := by omega
        have HX : Hid (decide (X = 0) = true) := decide_eq_true (HALL.out HZ.out)
        go_wp2
        go_ret
        refine ⟨?_, rfl⟩
        rw [HX.out]
        rfl
set_option maxRecDepth 100000 in
set_option maxHeartbeats 4000000 in
theorem within_gen {w : World} {p1 p2 a1 a2 : Option Addr} {n1 n2 N M : Nat} (hnw : n1 ≤ 65) (hnw2 : n2 ≤ 65)
    (HS : Calls Tryz.prog 55 #[.pointer p1] w fun e w' => e = .returned (.slice a1 n1 n1) ∧ w' = w)
    (HT2 : Calls Tryz.prog 55 #[.pointer p2] w fun e w' => e = .returned (.slice a2 n2 n2) ∧ w' = w)
    (WA0 : ∀ i : Nat, Calls Tryz.prog 124 #[.slice a1 n1 n1, .int .i64 (i : Int)] w fun e w' => e = .returned (.int .u64 (wdB N i : Int)) ∧ w' = w)
    (WB0 : ∀ i : Nat, Calls Tryz.prog 124 #[.slice a2 n2 n2, .int .i64 (i : Int)] w fun e w' => e = .returned (.int .u64 (wdB M i : Int)) ∧ w' = w)
    (hall : (∀ i, i < max n1 n2 → wdB (minusB N M) i = 0) → minusB N M = 0) :
    Calls Tryz.prog 113 #[.pointer p1, .pointer p2, .func (.func 114) #[] #[]] w fun e w' => e = .returned (.bool (decide (minusB N M = 0))) ∧ w' = w := by
  have HH : Hid (∀ p v, (p = Value.pointer p1 ∧ v = Value.slice a1 n1 n1) ∨ (p = Value.pointer p2 ∧ v = Value.slice a2 n2 n2) → Calls Tryz.prog 55 #[p] w fun e w' => e = .returned v ∧ w' = w) := fun p v q => by
    rcases q with ⟨rfl, rfl⟩ | ⟨rfl, rfl⟩
    · exact HS
    · exact HT2
  clear HS HT2
  have WA : Hid (∀ i : Nat, Calls Tryz.prog 124 #[.slice a1 n1 n1, .int .i64 (i : Int)] w fun e w' => e = .returned (.int .u64 (wdB N i : Int)) ∧ w' = w) := WA0
  have WB : Hid (∀ i : Nat, Calls Tryz.prog 124 #[.slice a2 n2 n2, .int .i64 (i : Int)] w fun e w' => e = .returned (.int .u64 (wdB M i : Int)) ∧ w' = w) := WB0
  have HALL : Hid ((∀ i, i < max n1 n2 → wdB (minusB N M) i = 0) → minusB N M = 0) := hall
  have HWD : Hid (∀ i, wdB (minusB N M) i = wdB N i &&& (18446744073709551615 - wdB M i)) := fun i => wd_minus N M i
  clear WA0 WB0 hall
  generalize minusB N M = X at *
  by_cases hmm : n1 < n2
  · rw [Nat.max_eq_right (Nat.le_of_lt hmm)] at HALL
    go_enter Tryz.func113, Tryz.ntmps113
    go_wp2_with (go_at_call 55; refine (HH.out _ _ (by first | (with_reducible exact Or.inl ⟨rfl, rfl⟩) | (with_reducible exact Or.inr ⟨rfl, rfl⟩))).mono ?_; rintro e w1 ⟨rfl, hz⟩; rw [hz]; clear hz w1)
    clear HH
    go_loopw [19] (fun z wr => ∃ i : Nat, i ≤ n2 ∧ z = .int .i64 (i : Int) ∧ (∀ j, j < i → wdB X j = 0) ∧ w = wr) (fun z _ => n2 - (intOf z).toNat)
    case atStart => exact ⟨0, Nat.zero_le _, rfl, fun j hj => absurd hj (Nat.not_lt_zero j), rfl⟩
    case round =>
      obtain ⟨i, hi, rfl, hz0, rfl⟩ := hrel
      have HZ : Hid (∀ j, j < i → wdB X j = 0) := hz0
      clear hz0
      by_cases hlt : i < n2
      · have ilt : (i : Int) < (n2 : Int) := by omega
        have W1 : Hid (Calls Tryz.prog 124 #[.slice a1 n1 n1, .int .i64 (i : Int)] w fun e w' => e = .returned (.int .u64 (wdB N i : Int)) ∧ w' = w) := WA.out i
        have W2 : Hid (Calls Tryz.prog 124 #[.slice a2 n2 n2, .int .i64 (i : Int)] w fun e w' => e = .returned (.int .u64 (wdB M i : Int)) ∧ w' = w) := WB.out i
        have DO : Hid (Calls Tryz.prog 114 #[.int .u64 (wdB N i : Int), .int .u64 (wdB M i : Int)] w fun e w' => e = .returned (.int .u64 ((wdB N i &&& (18446744073709551615 - wdB M i) : Nat) : Int)) ∧ w' = w) := within1_S (wdB N i) (wdB M i) (wdB_lt N i) (wdB_lt M i) w
        have hwd := HWD.out i
        rw [← hwd] at DO
        clear hwd
        have WW : Hid (∀ v x, (v = Value.slice a1 n1 n1 ∧ x = wdB N i) ∨ (v = Value.slice a2 n2 n2 ∧ x = wdB M i) → Calls Tryz.prog 124 #[v, .int .i64 (i : Int)] w fun e w' => e = .returned (.int .u64 (x : Int)) ∧ w' = w) := fun v x q => by
          rcases q with ⟨rfl, rfl⟩ | ⟨rfl, rfl⟩
          · exact W1.out
          · exact W2.out
        clear W1 W2
        generalize wdB N i = A at *
        generalize wdB M i = B at *
        by_cases hD : wdB X i = 0
        · have e0 : ((wdB X i : Int) != 0) = false := by rw [hD]; rfl
          have HZ2 : Hid (∀ j, j < i + 1 → wdB X j = 0) := fun j hj => by
            by_cases q : j = i
            · rw [q]; exact hD
            · exact HZ.out j (by omega)
          rw [hD] at DO
          clear hD e0
          go_wp2_with (first
            | (go_at_call 124; refine (WW.out _ _ (by first | (with_reducible exact Or.inl ⟨rfl, rfl⟩) | (with_reducible exact Or.inr ⟨rfl, rfl⟩))).mono ?_; rintro e w1 ⟨rfl, hz⟩; rw [hz]; clear hz w1)
            | (go_at_call 114; refine DO.out.mono ?_; rintro e w1 ⟨rfl, hz⟩; rw [hz]; clear hz w1))
          go_roundw
          case rel => exact ⟨i + 1, by omega, by go_num, HZ2.out, trivial⟩
          case measure => simp [intOf]; omega
        · have HX : Hid (decide (X = 0) = false) := decide_eq_false (fun q => hD (by rw [q, wdB_zero]))
          obtain ⟨D, hDe⟩ : ∃ D, wdB X i = D := ⟨_, rfl⟩
          rw [hDe] at DO hD
          have e0 : ((D : Int) != 0) = true := by simpa using hD
          have e1 : ((D : Int) == 0) = false := by simpa using hD
          clear hD hDe
          go_wp2_with (first
            | (go_at_call 124; refine (WW.out _ _ (by first | (with_reducible exact Or.inl ⟨rfl, rfl⟩) | (with_reducible exact Or.inr ⟨rfl, rfl⟩))).mono ?_; rintro e w1 ⟨rfl, hz⟩; rw [hz]; clear hz w1)
            | (go_at_call 114; refine DO.out.mono ?_; rintro e w1 ⟨rfl, hz⟩; rw [hz]; clear hz w1))
          go_ret
          refine ⟨?_, rfl⟩
          rw [HX.out]
          rfl
      · obtain rfl : i = n2 := by omega
        have ilt : ¬ (i : Int) < (i : Int) := by omega
        have HX : Hid (decide (X = 0) = true) := decide_eq_true (HALL.out HZ.out)
        go_wp2
        go_ret
        refine ⟨?_, rfl⟩
        rw [HX.out]
        rfl
  · rw [Nat.max_eq_left (Nat.not_lt.1 hmm)] at HALL
    go_enter Tryz.func113, Tryz.ntmps113
    go_wp2_with (go_at_call 55; refine (HH.out _ _ (by first | (with_reducible exact Or.inl ⟨rfl, rfl⟩) | (with_reducible exact Or.inr ⟨rfl, rfl⟩))).mono ?_; rintro e w1 ⟨rfl, hz⟩; rw [hz]; clear hz w1)
    clear HH
    go_loopw [19] (fun z wr => ∃ i : Nat, i ≤ n1 ∧ z = .int .i64 (i : Int) ∧ (∀ j, j < i → wdB X j = 0) ∧ w = wr) (fun z _ => n1 - (intOf z).toNat)
    case atStart => exact ⟨0, Nat.zero_le _, rfl, fun j hj => absurd hj (Nat.not_lt_zero j), rfl⟩
    case round =>
      obtain ⟨i, hi, rfl, hz0, rfl⟩ := hrel
      have HZ : Hid (∀ j, j < i → wdB X j = 0) := hz0
      clear hz0
      by_cases hlt : i < n1
      · have ilt : (i : Int) < (n1 : Int) := by omega
        have W1 : Hid (Calls Tryz.prog 124 #[.slice a1 n1 n1, .int .i64 (i : Int)] w fun e w' => e = .returned (.int .u64 (wdB N i : Int)) ∧ w' = w) := WA.out i
        have W2 : Hid (Calls Tryz.prog 124 #[.slice a2 n2 n2, .int .i64 (i : Int)] w fun e w' => e = .returned (.int .u64 (wdB M i : Int)) ∧ w' = w) := WB.out i
        have DO : Hid (Calls Tryz.prog 114 #[.int .u64 (wdB N i : Int), .int .u64 (wdB M i : Int)] w fun e w' => e = .returned (.int .u64 ((wdB N i &&& (18446744073709551615 - wdB M i) : Nat) : Int)) ∧ w' = w) := within1_S (wdB N i) (wdB M i) (wdB_lt N i) (wdB_lt M i) w
        have hwd := HWD.out i
        rw [← hwd] at DO
        clear hwd
        have WW : Hid (∀ v x, (v = Value.slice a1 n1 n1 ∧ x = wdB N i) ∨ (v = Value.slice a2 n2 n2 ∧ x = wdB M i) → Calls Tryz.prog 124 #[v, .int .i64 (i : Int)] w fun e w' => e = .returned (.int .u64 (x : Int)) ∧ w' = w) := fun v x q => by
          rcases q with ⟨rfl, rfl⟩ | ⟨rfl, rfl⟩
          · exact W1.out
          · exact W2.out
        clear W1 W2
        generalize wdB N i = A at *
        generalize wdB M i = B at *
        by_cases hD : wdB X i = 0
        · have e0 : ((wdB X i : Int) != 0) = false := by rw [hD]; rfl
          have HZ2 : Hid (∀ j, j < i + 1 → wdB X j = 0) := fun j hj => by
            by_cases q : j = i
            · rw [q]; exact hD
            · exact HZ.out j (by omega)
          rw [hD] at DO
          clear hD e0
          go_wp2_with (first
            | (go_at_call 124; refine (WW.out _ _ (by first | (with_reducible exact Or.inl ⟨rfl, rfl⟩) | (with_reducible exact Or.inr ⟨rfl, rfl⟩))).mono ?_; rintro e w1 ⟨rfl, hz⟩; rw [hz]; clear hz w1)
            | (go_at_call 114; refine DO.out.mono ?_; rintro e w1 ⟨rfl, hz⟩; rw [hz]; clear hz w1))
          go_roundw
          case rel => exact ⟨i + 1, by omega, by go_num, HZ2.out, trivial⟩
          case measure => simp [intOf]; omega
        · have HX : Hid (decide (X = 0) = false) := decide_eq_false (fun q => hD (by rw [q, wdB_zero]))
          obtain ⟨D, hDe⟩ : ∃ D, wdB X i = D := ⟨_, rfl⟩
          rw [hDe] at DO hD
          have e0 : ((D : Int) != 0) = true := by simpa using hD
          have e1 : ((D : Int) == 0) = false := by simpa using hD
          clear hD hDe
          go_wp2_with (first
            | (go_at_call 124; refine (WW.out _ _ (by first | (with_reducible exact Or.inl ⟨rfl, rfl⟩) | (with_reducible exact Or.inr ⟨rfl, rfl⟩))).mono ?_; rintro e w1 ⟨rfl, hz⟩; rw [hz]; clear hz w1)
            | (go_at_call 114; refine DO.out.mono ?_; rintro e w1 ⟨rfl, hz⟩; rw [hz]; clear hz w1))
          go_ret
          refine ⟨?_, rfl⟩
          rw [HX.out]
          rfl
      · obtain rfl : i = n1 := by omega
        have ilt : ¬ (i : Int) < (i : Int) := by omega
        have HX : Hid (decide (X = 0) = true) := decide_eq_true (HALL.out HZ.out)
        go_wp2
        go_ret
        refine ⟨?_, rfl⟩
        rw [HX.out]
        rfl
end Go.Proofs.YtcgghlaifmlpiaaGreatDoor
