import Derived.Test.YtobhemaikomdaaaGreatDoorPTE0ToTE3
import Derived.Test.YtobhemaikomdaaaGreatDoorPTB13ToTB28
import Derived.Test.YtobhemaikomdaaaGreatDoorPRMoreToGE10
namespace Go.Proofs.YtobhemaikomdaaaGreatDoor
set_option linter.unusedVariables false
open Go.RowKit
theorem szL_ge (l : List TV) : l.length <= szL l := by
 induction l with
 | nil => exact Nat.zero_le _
 | cons a l ih => rw [szL_cons, List.length_cons]; have := szT_eq a; omega
theorem dl_szA (A : AB) : (dlA A).length + A.2.length <= szA A := by
 obtain ⟨D, S⟩ := A
 induction S with
 | nil =>
  have e : dlA (D, []) = D := by simp [dlA, ksL]
  rw [e]
  have := szL_ge D
  show D.length + 0 <= szL D + 0
  omega
 | cons f S ih =>
  rw [dlA_cons, List.length_append, List.length_cons]
  have h1 := szL_ge f.ks
  have h2 : szA (D, f :: S) = szA (D, S) + (1 + szL f.ks) := by
   show szL D + szF (f :: S) = szL D + szF S + _
   rw [szF_cons]; omega
  dsimp only at ih ⊢
  omega
section
variable {w0 w0' w w' : World} {N bb bo : Nat} {OC : Nat -> Option Value} {RF : Nat -> Option Obj}
theorem BdM.kept2 {vo vd : Value} {NL : List (Int × Nat × Nat)} {DL : List TV} (h : BdM w0 N bb bo OC RF vo vd NL DL w) (hB : Below N w0' w') (hs : w.heap.size <= w'.heap.size) (hk : ∀ j, N <= j ∨ (∃ o, RF j = some o) -> j < w.heap.size -> w'.heap[j]? = w.heap[j]?) : BdM w0' N bb bo OC RF vo vd NL DL w' := by
 obtain ⟨C, ty, hC, n1, n2, c0, c1⟩ := h.bk
 have hbb := hk bb (.inl h.bn) (lt_of_block hC)
 refine ⟨hB, Nat.le_trans h.nz hs, ⟨C, ty, hbb.trans hC, n1, n2, c0, c1⟩, h.bn, fun o h1 h2 => (World.cell?_of_block hbb).trans (h.oc o h1 h2), fun j o hj => ?_, h.no.kept fun j hj => hk j (.inl (h.oo j hj)) (h.no.lt j hj), h.td.kept fun j hj => hk j (.inl (h.od j hj)) (h.td.lt j hj), h.oo, h.od, fun t ht => ?_, fun a ha => ?_, h.dn⟩
 ·obtain ⟨a, b, c, d⟩ := h.rf j o hj
  exact ⟨(hk j (.inr ⟨o, hj⟩) (lt_of_block a)).trans a, b, c, d⟩
 ·refine keep_at t 0 0 (h.tr t ht) fun a ha => ?_
  have hm : a ∈ inR DL := List.mem_flatMap.2 ⟨t, ht, ha⟩
  obtain ⟨hN, -, -, cs, hc⟩ := h.ad a hm
  have e := hk a.1 (.inl hN) (lt_of_block hc)
  exact ⟨lt_of_block (e.trans hc), fun i _ => World.cell?_of_block e⟩
 ·obtain ⟨a1, b, c, cs, hc⟩ := h.ad a ha
  exact ⟨a1, b, c, cs, (hk a.1 (.inl a1) (lt_of_block hc)).trans hc⟩
theorem BdM.base {vo vd : Value} {NL : List (Int × Nat × Nat)} {DL : List TV} (h : BdM w0 N bb bo OC RF vo vd NL DL w) : BdM w N bb bo OC RF vo vd NL DL w := h.kept2 (Below.refl _ _) (Nat.le_refl _) fun _ _ _ => rfl
theorem BdS.base {A : AB} (h : BdS w0 N bb bo OC RF A w) : BdS w N bb bo OC RF A w := by
 obtain ⟨a, b, c, d, e⟩ := h
 exact ⟨a, b, c, d, e.base⟩
theorem BdS.read {A : AB} {r : Nat} (h : BdS w0 N bb bo OC (fun _ => none) A w) (ho : C.ROnly w w' r) (hr : r < N) : BdS w' N bb bo OC (fun _ => none) A w' := by
 obtain ⟨a, b, c, d, e⟩ := h
 refine ⟨a, b, c, d, e.kept2 (Below.refl _ _) ho.size fun j hj hl => ?_⟩
 rcases hj with hj | ⟨o, hj⟩
 ·exact ho.block j hl (by omega)
 ·cases hj
theorem rinv_keep {r : Nat} {ao : Option Addr} {n c : Nat} {zs : List Int} {p : Nat} {e : Int} (h : C.RInv w r ao n c zs p e) (h1 : w'.heap[r]? = w.heap[r]?) (h2 : ∀ g, ao = some ⟨g, 0, none⟩ -> w'.heap[g]? = w.heap[g]?) : C.RInv w' r ao n c zs p e := by
 refine ⟨h1.trans h.hr, h.len, ⟨h.row.1, fun hne => ?_⟩, h.nil, h.cap, h.pos, h.lim, h.shape⟩
 obtain ⟨b, off, he, hc⟩ := h.row.2 hne
 refine ⟨b, off, he, fun i hi => ?_⟩
 rcases h.shape with q | ⟨g, q⟩
 ·rw [q] at he; cases he
 ·have hq := he
  rw [q] at hq
  simp only [Option.some.injEq, Addr.mk.injEq] at hq
  obtain ⟨rfl, rfl, -⟩ := hq
  rw [World.cell?_of_block (h2 g q)]
  exact hc i hi
structure DcI (wi : World) (r bb : Nat) (ao : Option Addr) (n c : Nat) (zs : List Int) (A : AB) (p : Nat) (e : Int) (w : World) : Prop where
 rd : C.RInv w r ao n c zs p e
 rl : r < wi.heap.size
 al : ∀ g, ao = some ⟨g, 0, none⟩ -> g < wi.heap.size
 bd : BdS w wi.heap.size bb 0 (fun _ => none) (fun _ => none) A w
 on : C.ROnly wi w r
section
variable {wi : World} {r : Nat} {ao : Option Addr} {n c : Nat} {zs : List Int} {A : AB} {p : Nat} {e : Int}
theorem DcI.read (h : DcI wi r bb ao n c zs A p e w) {p' : Nat} {e' : Int} (hr : C.RInv w' r ao n c zs p' e') (ho : C.ROnly w w' r) : DcI wi r bb ao n c zs A p' e' w' :=
 ⟨hr, h.rl, h.al, h.bd.read ho h.rl, h.on.trans ho⟩
theorem DcI.made (h : DcI wi r bb ao n c zs A p e w) {A' : AB} (hb : BdS w wi.heap.size bb 0 (fun _ => none) (fun _ => none) A' w') : DcI wi r bb ao n c zs A' p e w' := by
 have hB := hb.bel
 exact ⟨rinv_keep h.rd (hB.block r h.rl) (fun g hg => hB.block g (h.al g hg)), h.rl, h.al, hb.base, ⟨hB.os.trans h.on.os, hB.tape.trans h.on.tape, hB.output.trans h.on.output, Nat.le_trans h.on.size hB.size, fun k hk hq => (hB.block k hk).trans (h.on.block k hk hq)⟩⟩
theorem DcI.later (h : DcI wi r bb ao n c zs A p e w) (hb : Below w.heap.size w w') : DcI wi r bb ao n c zs A p e w' :=
 ⟨h.rd.later hb, h.rl, h.al, (h.bd.later hb).base, h.on.trans (C.ROnly.ofBelow hb)⟩
end
end
theorem wrapI {z : Int} (h0 : -9223372036854775808 <= z) (h1 : z <= 9223372036854775807) : IntKind.i64.wrap z = z := IntWalk.i64_in _ ⟨by omega, by omega⟩
def failB (zs : List Int) (p : Nat) (e : Int) : Bool := (C.endS zs p e).1 != 0 && (C.endS zs p e).1 != 12
section
variable {w : World} {r : Nat} {ao : Option Addr} {n c : Nat} {zs : List Int} {p : Nat} {e : Int}
theorem rend_B (h : C.RInv w r ao n c zs p e) (a b : Int) (he : C.endS zs p e = (a, b)) : Calls Tryz.prog 40 #[.pointer (some ⟨r, 0, none⟩)] w fun x w' => x = .returned (.tuple #[.int .i64 a, .int .i64 b]) /\ Below w.heap.size w w' :=
 (C.rend_eq h a b he).mono fun x w' ⟨e1, n, e2⟩ => ⟨e1, by rw [e2]; exact below_drewN (Below.refl _ _) n⟩
set_option maxRecDepth 100000 in
set_option maxHeartbeats 2000000 in
theorem failed_W (h : C.RInv w r ao n c zs p e) : Calls Tryz.prog 38 #[.pointer (some ⟨r, 0, none⟩)] w fun x w' => x = .returned (.bool (failB zs p e)) /\ Below w.heap.size w w' := by
 obtain ⟨ee, ea, hE⟩ : ∃ ee ea, C.endS zs p e = (ee, ea) := ⟨_, _, rfl⟩
 have CE : Hid (Calls Tryz.prog 40 #[.pointer (some ⟨r, 0, none⟩)] w fun x w' => x = .returned (.tuple #[.int .i64 ee, .int .i64 ea]) /\ Below w.heap.size w w') := rend_B h ee ea hE
 have ef : failB zs p e = (ee != 0 && ee != 12) := by unfold failB; rw [hE]
 rw [ef]
 clear ef hE h
 by_cases h1 : ee = 0
 ·subst h1
  go_enter Tryz.func38, Tryz.ntmps38
  go_wp2_with (go_at_call 40; refine CE.out.mono ?_; rintro x w1 ⟨rfl, b1⟩; have B1 : Hid (Below w.heap.size w w1) := b1; clear b1)
  go_ret
  exact ⟨rfl, B1.out⟩
 ·have t1 : (ee != 0) = true := by simpa using h1
  rw [t1]
  clear h1
  obtain ⟨b2, hb2⟩ : ∃ b2, (ee != 12) = b2 := ⟨_, rfl⟩
  rw [hb2]
  go_enter Tryz.func38, Tryz.ntmps38
  go_wp2_with (go_at_call 40; refine CE.out.mono ?_; rintro x w1 ⟨rfl, b1⟩; have B1 : Hid (Below w.heap.size w w1) := b1; clear b1)
  go_ret
  exact ⟨by simp, B1.out⟩
end
section
variable {wi w : World} {r bb : Nat} {ao : Option Addr} {n c : Nat} {zs : List Int} {A : AB} {p : Nat} {e : Int}
set_option maxRecDepth 100000 in
set_option maxHeartbeats 2000000 in
theorem readPlace_W (h : DcI wi r bb ao n c zs A p e w) (hA : (dlA A).length + A.2.length <= 999999999) : Calls Tryz.prog 39 #[.pointer (some ⟨r, 0, none⟩), .pointer (some ⟨bb, 0, none⟩)] w fun x w' => x = .returned (.tuple #[]) /\ DcI wi r bb ao n c zs (plS zs p e A).1 (plS zs p e A).2.1 (plS zs p e A).2.2 w' := by
 obtain ⟨n1, p1, e1, h1⟩ : ∃ n1 p1 e1, C.takeS zs p e 1073741825 = (n1, p1, e1) := ⟨_, _, _, rfl⟩
 have q1 := take_range h.rd.row.1 1073741825 (by decide) p h.rd.pos e
 rw [h1] at q1
 dsimp only at q1
 have wr1 : IntKind.i64.wrap (n1 - 1) = n1 - 1 := wrapI (by omega) (by omega)
 have CI : Hid (Calls Tryz.prog 72 #[.pointer (some ⟨r, 0, none⟩), .int .i64 1073741825] w fun x w' => x = .returned (.int .i64 n1) /\ DcI wi r bb ao n c zs A p1 e1 w') := (xintM (by decide) h.rd n1 p1 e1 h1).mono fun x w' ⟨a1, a2, a3⟩ => ⟨a1, h.read a2 a3⟩
 unfold plS
 rw [h1]
 dsimp only
 clear h q1
 by_cases hn : n1 - 1 < 0
 ·rw [if_pos hn]
  obtain ⟨k, p2, e2, h2⟩ : ∃ k p2 e2, C.takeS zs p1 e1 9223372036854775808 = (k, p2, e2) := ⟨_, _, _, rfl⟩
  rw [h2]
  dsimp only
  obtain ⟨s, p3, e3, h3⟩ : ∃ s p3 e3, txM 16777216 zs p2 e2 = (s, p3, e3) := ⟨_, _, _, rfl⟩
  rw [h3]
  dsimp only
  have CS : Hid (∀ w', DcI wi r bb ao n c zs A p1 e1 w' -> Calls Tryz.prog 73 #[.pointer (some ⟨r, 0, none⟩), .int .i64 4611686018427387904] w' fun x w'' => x = .returned (.int .i64 (C.unfoldS k)) /\ DcI wi r bb ao n c zs A p2 e2 w'') := fun w' hd => (xsgM (by decide) hd.rd k p2 e2 h2).mono fun x w' ⟨a1, a2, a3⟩ => ⟨a1, hd.read a2 a3⟩
  have CT : Hid (∀ w', DcI wi r bb ao n c zs A p2 e2 w' -> Calls Tryz.prog 75 #[.pointer (some ⟨r, 0, none⟩), .int .i64 16777216] w' fun x w'' => x = .returned (.string s) /\ DcI wi r bb ao n c zs A p3 e3 w'') := fun w' hd => (xtxM (by decide) hd.rd s p3 e3 h3).mono fun x w' ⟨a1, a2, a3⟩ => ⟨a1, hd.read a2 a3⟩
  have CL : Hid (∀ w', DcI wi r bb ao n c zs A p3 e3 w' -> Calls Tryz.prog 74 #[.pointer (some ⟨bb, 0, none⟩), .agg #[.int .i64 (C.unfoldS k), .string s]] w' fun x w'' => x = .returned (.tuple #[]) /\ DcI wi r bb ao n c zs (clU2 (adA A (lfT (C.unfoldS k) s))) p3 e3 w'') := fun w' hd => (leaf_B (C.unfoldS k) s hd.bd hA).mono fun x w' ⟨a1, a2⟩ => ⟨a1, hd.made a2⟩
  clear h1 h2 h3
  generalize C.unfoldS k = ku at *
  go_enter Tryz.func39, Tryz.ntmps39
  go_wp2_with (first
   | (go_at_call 72; refine CI.out.mono ?_; rintro x w1 ⟨rfl, d1⟩; have D1 : Hid (DcI wi r bb ao n c zs A p1 e1 w1) := d1; clear d1)
   | (go_at_call 73; refine (CS.out _ D1.out).mono ?_; rintro x w2 ⟨rfl, d2⟩; have D2 : Hid (DcI wi r bb ao n c zs A p2 e2 w2) := d2; clear d2)
   | (go_at_call 75; refine (CT.out _ D2.out).mono ?_; rintro x w3 ⟨rfl, d3⟩; have D3 : Hid (DcI wi r bb ao n c zs A p3 e3 w3) := d3; clear d3)
   | (go_at_call 74; refine (CL.out _ D3.out).mono ?_; rintro x w4 ⟨rfl, d4⟩; have D4 : Hid (DcI wi r bb ao n c zs (clU2 (adA A (lfT ku s))) p3 e3 w4) := d4; clear d4))
  refine bodyPost_ret (v := .tuple #[]) (by simp [results, Tryz.results39]) rfl ?_
  exact ⟨rfl, D4.out⟩
 ·rw [if_neg hn]
  obtain ⟨m, p2, e2, h2⟩ : ∃ m p2 e2, ctM 1073741824 zs p1 e1 = (m, p2, e2) := ⟨_, _, _, rfl⟩
  rw [h2]
  dsimp only
  have CS : Hid (∀ w', DcI wi r bb ao n c zs A p1 e1 w' -> Calls Tryz.prog 77 #[.pointer (some ⟨r, 0, none⟩), .int .i64 1, .int .i64 1073741824] w' fun x w'' => x = .returned (.int .i64 (m : Int)) /\ DcI wi r bb ao n c zs A p2 e2 w'') := fun w' hd => (xctM (by decide) hd.rd m p2 e2 h2).mono fun x w' ⟨a1, a2, a3⟩ => ⟨a1, hd.read a2 a3⟩
  have CL : Hid (∀ w', DcI wi r bb ao n c zs A p2 e2 w' -> Calls Tryz.prog 76 #[.pointer (some ⟨bb, 0, none⟩), .int .i64 (n1 - 1), .int .i64 (m : Int)] w' fun x w'' => x = .returned (.tuple #[]) /\ DcI wi r bb ao n c zs (clU2 (A.1, ⟨n1 - 1, m, []⟩ :: A.2)) p2 e2 w'') := fun w' hd => (node_B hd.bd hA).mono fun x w' ⟨a1, a2⟩ => ⟨a1, hd.made a2⟩
  clear h1 h2
  generalize hmi : (m : Int) = mi at *
  clear hmi
  go_enter Tryz.func39, Tryz.ntmps39
  go_wp2_with (first
   | (go_at_call 72; refine CI.out.mono ?_; rintro x w1 ⟨rfl, d1⟩; have D1 : Hid (DcI wi r bb ao n c zs A p1 e1 w1) := d1; clear d1)
   | (go_at_call 77; refine (CS.out _ D1.out).mono ?_; rintro x w2 ⟨rfl, d2⟩; have D2 : Hid (DcI wi r bb ao n c zs A p2 e2 w2) := d2; clear d2)
   | (go_at_call 76; refine (CL.out _ D2.out).mono ?_; rintro x w4 ⟨rfl, d4⟩; have D4 : Hid (DcI wi r bb ao n c zs (clU2 (A.1, ⟨n1 - 1, m, []⟩ :: A.2)) p2 e2 w4) := d4; clear d4))
  refine bodyPost_end (results_none rfl _ _ _) rfl ?_
  exact ⟨rfl, D4.out⟩
end
end Go.Proofs.YtobhemaikomdaaaGreatDoor
