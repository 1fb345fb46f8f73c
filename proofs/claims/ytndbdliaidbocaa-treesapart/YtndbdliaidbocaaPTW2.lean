import Derived.Test.YtndbdliaidbocaaPTW1ToTTS
import Derived.Deep.DeepCutAuto
import Derived.Deep.MidRow
namespace Go.Proofs.Ytndbdliaidbocaa
set_option linter.unusedVariables false
open Go.RowKit
abbrev fnV (F : FuncId) (c : Array Value) : Value := .func (.func F) #[] c
structure WkC {γ : Type} (N : Nat) (I : γ -> List PA -> World -> Prop) (μ : γ -> Nat) (Post : World -> Prop) (E L : FuncId) (ec lc : Array Value) : Prop where
 ee : EntW E
 el : EntW L
 still : ∀ x S w w', I x S w -> NoStp N w w' -> I x S w'
 deep : ∀ x S w, I x S w -> S.length <= 500000000
 fin : ∀ x w, I x [] w -> Post w
 apart : ∀ x S p q n w, I x (S ++ [(p, q, n)]) w -> ∀ b m c, STn N w (.slice (some ⟨b, 0, none⟩) m c) (S ++ [(p, q, n)]) -> p ≠ b
 top : ∀ x S p q n w, I x (S ++ [(p, q, n)]) w -> ∃ ka len kc, w.cell? ⟨p, q + 3, none⟩ = some (.slice ka len kc) /\ n <= len /\ len <= 1000000000 /\
  (n = len -> Calls Try.prog L (#[.pointer (some ⟨p, q, none⟩)] ++ lc) w fun e w' => e = .returned (.tuple #[]) /\ OnStp N w w' /\ ∃ x', μ x' < μ x /\ I x' S w') /\
  (n < len -> ∃ b off, ka = some ⟨b, off, none⟩ /\ Calls Try.prog E (#[.pointer (some ⟨b, off + n * 4, none⟩)] ++ ec) w fun e w' => ∃ r, e = .returned (.bool r) /\ OnStp N w w' /\ (r = true -> ∃ x', μ x' < μ x /\ I x' (S ++ [(p, q, n + 1)] ++ [(b, off + n * 4, 0)]) w') /\ (r = false -> Post w'))
theorem sto_one (w : World) (p q : Nat) : STo (w.alloc (.cells #[.pointer (some ⟨p, q, none⟩), .int .i64 0] 76)) (.slice (some ⟨w.heap.size, 0, none⟩) 1 1) [(p, q, 0)] :=
 ⟨rfl, .inr ⟨w.heap.size, 1, #[.pointer (some ⟨p, q, none⟩), .int .i64 0], rfl, Nat.zero_le _, heap_alloc_new _ _, Nat.le_refl _, by unfold maxLen; omega, rfl, rfl⟩⟩
theorem sto_free {w : World} {b n c : Nat} {S : List PA} (h : STo w (.slice (some ⟨b, 0, none⟩) n c) S) (j : Nat) : w.frozen? ⟨b, j, none⟩ = false := by
 rcases h.2 with ⟨e, _⟩ | ⟨g, cap, cur, e, _, h2, _⟩
 ·cases e
 ·cases e
  simp [World.frozen?, h2]
theorem cell_set_neW {w : World} {p q o o' : Nat} {u : Value} (h : p ≠ q) : (w.setCell ⟨q, o', none⟩ u).cell? ⟨p, o, none⟩ = w.cell? ⟨p, o, none⟩ := World.cell?_of_block (Below.heap_setCell _ _ _ _ h)
set_option linter.unusedSimpArgs false in
set_option maxRecDepth 100000 in
set_option maxHeartbeats 8000000 in
theorem walkAround_W {γ : Type} {N : Nat} {I : γ -> List PA -> World -> Prop} {μ : γ -> Nat} {Post : World -> Prop} {E L : FuncId} {ec lc : Array Value} (hC : WkC N I μ Post E L ec lc) (b0 o0 : Nat) (w : World) (hN : N <= w.heap.size)
  (h0 : Calls Try.prog E (#[.pointer (some ⟨b0, o0, none⟩)] ++ ec) w fun e w' => ∃ r, e = .returned (.bool r) /\ w.heap.size <= w'.heap.size /\ (r = true -> ∃ x, I x [(b0, o0, 0)] w') /\ (r = false -> Post w')) :
  Calls Try.prog 15 #[.pointer (some ⟨b0, o0, none⟩), fnV E ec, fnV L lc] w fun e w' => e = .returned (.tuple #[]) /\ Post w' := by
 obtain ⟨A0, hA0⟩ : ∃ A0, A0 = #[Value.pointer (some ⟨b0, o0, none⟩)] ++ ec := ⟨_, rfl⟩
 have H0 : Hid (Calls Try.prog E A0 w fun e w' => ∃ r, e = .returned (.bool r) /\ w.heap.size <= w'.heap.size /\ (r = true -> ∃ x, I x [(b0, o0, 0)] w') /\ (r = false -> Post w')) := by rw [hA0]; exact h0
 have HA0 : Hid (A0 = #[Value.pointer (some ⟨b0, o0, none⟩)] ++ ec) := hA0
 have HN : Hid (N <= w.heap.size) := hN
 have HC : Hid (WkC N I μ Post E L ec lc) := hC
 clear hC h0 hA0 hN
 go_enter Try.func15, Try.ntmps15
 go_upto_region 1 with (refine wpList_callW rfl (.tmp 9) (.tmp 10) 45 rfl HC.out.ee (.pointer (some ⟨b0, o0, none⟩)) rfl rfl A0 HA0.out H0.out ?_; rintro e w1 ⟨r, rfl, hz1, h1, h2⟩; refine ⟨_, rfl, ?_⟩; cases r)
 ·refine bodyPost_ret (results_none rfl _ _ _) rfl ?_
  exact ⟨rfl, h2 (by simp)⟩
 ·obtain ⟨x0, hx0⟩ := h1 (by simp)
  have S0 : Hid (STn N (w1.alloc (.cells #[.pointer (some ⟨b0, o0, none⟩), .int .i64 0] 76)) (.slice (some ⟨w1.heap.size, 0, none⟩) 1 1) [(b0, o0, 0)] /\ I x0 [(b0, o0, 0)] (w1.alloc (.cells #[.pointer (some ⟨b0, o0, none⟩), .int .i64 0] 76))) := ⟨⟨sto_one w1 b0 o0, fun j hj => by simp [Value.ownBlock] at hj; have := HN.out; omega⟩, HC.out.still _ _ _ _ hx0 (below_noStp (below_alloc _ _))⟩
  clear h1 h2 hx0 hz1
  go_wp2
  generalize w1.alloc (.cells #[.pointer (some ⟨b0, o0, none⟩), .int .i64 0] 76) = w2 at *
  go_loopg [6] (μ x0 + 1) (fun gk vs wr => ∃ x S, STn N wr vs S /\ I x S wr /\ μ x < gk)
  case atStart => exact ⟨x0, _, S0.out.1, S0.out.2, by omega⟩
  case round =>
   clear S0
   obtain ⟨x, S, hS, hI, hg⟩ := hrel
   by_cases hD : S = []
   ·subst hD
    obtain ⟨sa, sc, rfl, _⟩ := RO.len hS.1
    have R : Hid (Post wr) := HC.out.fin x wr hI
    clear hS hI hg
    simp only [List.length_nil] at *
    go_wp2
    refine bodyPost_end (results_none rfl _ _ _) rfl ?_
    exact ⟨rfl, R.out⟩
   ·obtain ⟨S', y, rfl⟩ : ∃ d y, S = d ++ [y] := ⟨S.dropLast, S.getLast hD, (List.dropLast_concat_getLast hD).symm⟩
    obtain ⟨p, q, n⟩ := y
    obtain ⟨b, c, rfl, hc, hcell, hP'⟩ := RO.pop (f := stCells) (fun _ => rfl) hS.1
    have c0 := hcell 0 (by omega)
    have c1 := hcell 1 (by omega)
    simp only [stCells, List.getElem?_cons_zero, List.getElem?_cons_succ, Nat.add_zero] at c0 c1
    obtain ⟨ka, len, kc, c3, hnl, hll, -⟩ := HC.out.top _ _ _ _ _ _ hI
    have HTOP : Hid (∀ w', I x (S' ++ [(p, q, n)]) w' -> w'.cell? ⟨p, q + 3, none⟩ = some (.slice ka len kc) -> (n = len -> Calls Try.prog L (#[.pointer (some ⟨p, q, none⟩)] ++ lc) w' fun e w'' => e = .returned (.tuple #[]) /\ OnStp N w' w'' /\ ∃ x', μ x' < μ x /\ I x' S' w'') /\
      (n < len -> ∃ b off, ka = some ⟨b, off, none⟩ /\ Calls Try.prog E (#[.pointer (some ⟨b, off + n * 4, none⟩)] ++ ec) w' fun e w'' => ∃ r, e = .returned (.bool r) /\ OnStp N w' w'' /\ (r = true -> ∃ x', μ x' < μ x /\ I x' (S' ++ [(p, q, n + 1)] ++ [(b, off + n * 4, 0)]) w'') /\ (r = false -> Post w''))) := fun w' h' e' => by
     obtain ⟨ka', len', kc', e, -, -, h⟩ := HC.out.top _ _ _ _ _ _ h'
     rw [e'] at e
     simp only [Option.some.injEq, Value.slice.injEq] at e
     obtain ⟨rfl, rfl, rfl⟩ := e
     exact h
    have hdp := HC.out.deep _ _ _ hI
    simp only [List.length_append, List.length_cons, List.length_nil] at hdp
    have HNB : Hid (N <= b) := hS.2 b rfl
    have HS : Hid (STn N wr (.slice (some ⟨b, 0, none⟩) (S'.length + 1) c) (S' ++ [(p, q, n)]) /\ I x (S' ++ [(p, q, n)]) wr /\ μ x < gk /\ STn N wr (.slice (some ⟨b, 0, none⟩) S'.length c) S') := ⟨hS, hI, hg, hP', hS.2⟩
    clear hS hI hg hP' hcell hD
    have hb0 : S'.length <= 500000000 := by omega
    clear hdp
    by_cases hn : n = len
    ·subst hn
     have t1 : ((n : Int) == (n : Int)) = true := by simp
     go_upto_region 4 with fail
     go_quiet (fail)
     obtain ⟨wd, hwd⟩ : ∃ wd : World, wd = wr.drewN nq := ⟨_, rfl⟩
     rw [<- hwd]
     have BD : Below wr.heap.size wr wd := by rw [hwd]; exact below_drewN (Below.refl _ _) _
     have HD : Hid (STn N wd (.slice (some ⟨b, 0, none⟩) (S'.length + 1) c) (S' ++ [(p, q, n)]) /\ I x (S' ++ [(p, q, n)]) wd /\ STn N wd (.slice (some ⟨b, 0, none⟩) S'.length c) S') := ⟨HS.out.1.on (below_onStp BD), HC.out.still _ _ _ _ HS.out.2.1 (below_noStp BD), HS.out.2.2.2.on (below_onStp BD)⟩
     have cc : ∀ a : Addr, wd.cell? a = wr.cell? a := fun a => by rw [hwd]; rfl
     have d0 := (cc _).trans c0
     have d1 := (cc _).trans c1
     have d3 := (cc _).trans c3
     obtain ⟨A1, hA1⟩ : ∃ A1, A1 = #[Value.pointer (some ⟨p, q, none⟩)] ++ lc := ⟨_, rfl⟩
     have CL : Hid (Calls Try.prog L A1 wd fun e w'' => e = .returned (.tuple #[]) /\ OnStp N wd w'' /\ ∃ x', μ x' < μ x /\ I x' S' w'') := by
      rw [hA1]
      exact (HTOP.out wd HD.out.2.1 d3).1 rfl
     have HA1 : Hid (A1 = #[Value.pointer (some ⟨p, q, none⟩)] ++ lc) := hA1
     clear hwd BD cc c0 c1 c3 hA1 HTOP d3
     go_wp2_with (refine wpList_callW rfl (.tmp 37) (.tmp 41) 45 rfl HC.out.el (.pointer (some ⟨p, q, none⟩)) rfl rfl A1 HA1.out CL.out ?_; rintro e w5 ⟨rfl, b5, x', hm5, hi5⟩; refine ⟨_, rfl, ?_⟩; have W5 : Hid (STn N w5 (.slice (some ⟨b, 0, none⟩) S'.length c) S' /\ μ x' < μ x /\ I x' S' w5) := ⟨HD.out.2.2.on b5, hm5, hi5⟩; clear b5 hm5 hi5 d0 d1)
     go_roundg (gk - 1)
     case measure => have := HS.out.2.2.1; omega
     case rel => exact ⟨x', S', W5.out.1, W5.out.2.2, by have := HS.out.2.2.1; have := W5.out.2.1; omega⟩
    ·have hlt : n < len := by omega
     have t1 : ((n : Int) == (len : Int)) = false := by simp; omega
     have nlt : (n : Int) < (len : Int) := by omega
     obtain ⟨kb, ko, rfl, -⟩ := (HTOP.out wr HS.out.2.1 c3).2 hlt
     have HAP : Hid (p ≠ b) := HC.out.apart _ _ _ _ _ _ HS.out.2.1 _ _ _ HS.out.1
     clear hn
     go_upto_region 4 with fail
     go_quiet (fail)
     obtain ⟨wd, hwd⟩ : ∃ wd : World, wd = wr.drewN nq := ⟨_, rfl⟩
     rw [<- hwd]
     have BD : Below wr.heap.size wr wd := by rw [hwd]; exact below_drewN (Below.refl _ _) _
     have HD : Hid (STn N wd (.slice (some ⟨b, 0, none⟩) (S'.length + 1) c) (S' ++ [(p, q, n)]) /\ I x (S' ++ [(p, q, n)]) wd /\ STn N wd (.slice (some ⟨b, 0, none⟩) S'.length c) S') := ⟨HS.out.1.on (below_onStp BD), HC.out.still _ _ _ _ HS.out.2.1 (below_noStp BD), HS.out.2.2.2.on (below_onStp BD)⟩
     have cc : ∀ a : Addr, wd.cell? a = wr.cell? a := fun a => by rw [hwd]; rfl
     have d0 := (cc _).trans c0
     have d1 := (cc _).trans c1
     have d3 := (cc _).trans c3
     have HG : Hid (μ x < gk) := HS.out.2.2.1
     clear hwd BD cc c0 c1 c3 HS
     go_upto_region 7 with fail
     go_quiet (fail)
     obtain ⟨we, hwe⟩ : ∃ we : World, we = wd.drewN nq := ⟨_, rfl⟩
     rw [<- hwe]
     have BE : Below wd.heap.size wd we := by rw [hwe]; exact below_drewN (Below.refl _ _) _
     have cc : ∀ a : Addr, we.cell? a = wd.cell? a := fun a => by rw [hwe]; rfl
     have e1 := (cc _).trans d1
     have HE : Hid (STn N we (.slice (some ⟨b, 0, none⟩) (S'.length + 1) c) (S' ++ [(p, q, n)])) := HD.out.1.on (below_onStp BE)
     have ef := sto_free HE.out.1 (S'.length * 2 + 1)
     obtain ⟨bm1, bm2⟩ := STo.bump (N := N) HE.out.1
     have HF : Hid (STn N (we.setCell ⟨b, S'.length * 2 + 1, none⟩ (.int .i64 ((n : Int) + 1))) (.slice (some ⟨b, 0, none⟩) (S'.length + 1) c) (S' ++ [(p, q, n + 1)]) /\ I x (S' ++ [(p, q, n)]) (we.setCell ⟨b, S'.length * 2 + 1, none⟩ (.int .i64 ((n : Int) + 1)))) := ⟨⟨bm1, HE.out.2⟩, HC.out.still _ _ _ _ HD.out.2.1 ((below_noStp BE).trans (bm2 HNB.out))⟩
     obtain ⟨A2, hA2⟩ : ∃ A2, A2 = #[Value.pointer (some ⟨kb, ko + n * 4, none⟩)] ++ ec := ⟨_, rfl⟩
     have CE : Hid (Calls Try.prog E A2 (we.setCell ⟨b, S'.length * 2 + 1, none⟩ (.int .i64 ((n : Int) + 1))) fun e w'' => ∃ r, e = .returned (.bool r) /\ OnStp N (we.setCell ⟨b, S'.length * 2 + 1, none⟩ (.int .i64 ((n : Int) + 1))) w'' /\ (r = true -> ∃ x', μ x' < μ x /\ I x' (S' ++ [(p, q, n + 1)] ++ [(kb, ko + n * 4, 0)]) w'') /\ (r = false -> Post w'')) := by
      obtain ⟨ka', len', kc', e, -, -, hh⟩ := HC.out.top _ _ _ _ _ _ HF.out.2
      have e3 : (we.setCell ⟨b, S'.length * 2 + 1, none⟩ (.int .i64 ((n : Int) + 1))).cell? ⟨p, q + 3, none⟩ = some (.slice (some ⟨kb, ko, none⟩) len kc) := by
       rw [cell_set_neW (HAP.out)]
       exact (cc _).trans d3
      rw [hA2]
      obtain ⟨b', o', eq', h⟩ := (HTOP.out _ HF.out.2 e3).2 hlt
      simp only [Option.some.injEq, Addr.mk.injEq, and_true] at eq'
      obtain ⟨rfl, rfl⟩ := eq'
      exact h
     have HA2 : Hid (A2 = #[Value.pointer (some ⟨kb, ko + n * 4, none⟩)] ++ ec) := hA2
     clear hwe BE cc d0 d1 d3 hA2 HTOP HD bm1 bm2 HE
     generalize hwf : we.setCell ⟨b, S'.length * 2 + 1, none⟩ (.int .i64 ((n : Int) + 1)) = wf at HF CE
     have HWF : Hid (we.setCell ⟨b, S'.length * 2 + 1, none⟩ (.int .i64 ((n : Int) + 1)) = wf) := hwf
     clear hwf
     go_upto_region 9 with fail
     rw [HWF.out]
     clear HWF e1 ef
     go_upto_region 10 with (refine wpList_callW rfl (.tmp 67) (.tmp 68) 45 rfl HC.out.ee (.pointer (some ⟨kb, ko + n * 4, none⟩)) rfl rfl A2 HA2.out CE.out ?_; rintro e w6 ⟨r, rfl, b6, h1, h2⟩; refine ⟨_, rfl, ?_⟩; cases r)
     ·refine bodyPost_ret (results_none rfl _ _ _) rfl ?_
      exact ⟨rfl, h2 (by simp)⟩
     ·obtain ⟨x', hm6, hi6⟩ := h1 (by simp)
      have W6 : Hid (STn N (w6.alloc (.cells #[.pointer (some ⟨kb, ko + n * 4, none⟩), .int .i64 0] 76)) (.slice (some ⟨b, 0, none⟩) (S'.length + 1) c) (S' ++ [(p, q, n + 1)]) /\ μ x' < μ x /\ I x' (S' ++ [(p, q, n + 1)] ++ [(kb, ko + n * 4, 0)]) (w6.alloc (.cells #[.pointer (some ⟨kb, ko + n * 4, none⟩), .int .i64 0] 76))) := ⟨(HF.out.1.on b6).later (below_alloc _ _), hm6, HC.out.still _ _ _ _ hi6 (below_noStp (below_alloc _ _))⟩
      have NX : Hid (∀ j u, (stCells (kb, ko + n * 4, 0))[j]? = some u -> (w6.alloc (.cells #[.pointer (some ⟨kb, ko + n * 4, none⟩), .int .i64 0] 76)).cell? ⟨w6.heap.size, j, none⟩ = some u) := fun j u hu => by
       rw [cellq_any (heap_alloc_new w6 (.cells #[.pointer (some ⟨kb, ko + n * 4, none⟩), .int .i64 0] 76)), <- hu]
       simp [stCells]
      have HNS : Hid (N <= (w6.alloc (.cells #[.pointer (some ⟨kb, ko + n * 4, none⟩), .int .i64 0] 76)).heap.size) := by
       have := W6.out.1.1.lt b rfl
       have := HNB.out
       show _ <= _
       omega
      have LN : Hid ((S' ++ [(p, q, n + 1)]).length <= 1000000000) := by show _ <= _; simp; omega
      have VL : Hid (S'.length + 1 = (S' ++ [(p, q, n + 1)]).length) := by simp [Hid]
      clear h1 h2 b6 hm6 hi6 HF CE HA2
      go_wp2_with (at_builtin; refine wpList_ro_append rkStep rfl _ _ rfl (.slice (some ⟨b, 0, none⟩) (S'.length + 1) c) (S' ++ [(p, q, n + 1)]) rfl W6.out.1.1 w6.heap.size 1 (kb, ko + n * 4, 0) rfl NX.out LN.out ?_; intro a7 n7 c7 w7 ho7 hg7; have W7 : Hid (STn N w7 (.slice a7 n7 c7) (S' ++ [(p, q, n + 1)] ++ [(kb, ko + n * 4, 0)]) /\ I x' (S' ++ [(p, q, n + 1)] ++ [(kb, ko + n * 4, 0)]) w7) := ⟨⟨ho7, hg7.own (n := N) HNS.out W6.out.1.2⟩, HC.out.still _ _ _ _ W6.out.2.2 (Grew.noStp hg7 W6.out.1)⟩; clear ho7 hg7)
      go_roundg (gk - 1)
      case measure => have := HG.out; omega
      case rel => exact ⟨x', _, W7.out.1, W7.out.2, by have := HG.out; have := W6.out.2.1; omega⟩
end Go.Proofs.Ytndbdliaidbocaa
