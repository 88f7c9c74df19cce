import PyProof.Rows.All
import Wide.All
import OpenK.AllK
import Wide.FinOn
import KE.KBits
import KE.BitLaws
import HandS.ForMost
import HandS.ForExc
import HandS.IsInst
import HandS.Wide
import HandS.WideBits
import HandS.WideMore
import HandS.Flow
import HandS.ExcInit
import HandS.Codes
import HandS.ExcField
import HandS.ExcIs
import KE.KExcIs
import KE.KIsAll
import HandS.More
import HandS.Dict
import HandS.CallLocal
import HandS.Zip
import HandS.Text
import HandS.Conv
import HandS.WrittenGet
import PyProof.Rows.SortShellAny
import PyProof.Rows.StrMeet
import PySem.Challenge.RW_wasmhost_k03_signatures_of_instructions
set_option Elab.async false
set_option linter.all false
set_option maxRecDepth 100000
set_option maxHeartbeats 4000000
namespace V
open PySem PySem.Spec PyProof.Rows L2
/-! ### a def that may be called by its name -/
structure Cal (P : Program) (w : World) (K : PySem.W.Frag) (mg : Str → Option Value) (base : Heap) (C : CXT) (k : Nat) (x : Str) (sp : Sp) : Prop where
  ex : ∃ (f : Addr) (fd : FuncData) (ps : List Str), FnOk P w K mg base C k f fd ps sp ∧ mg x = some (.ref f) ∧ PySem.W.keepIn K (.ref f) = true ∧ Binds K fd ps []
section
variable {P : Program} {w : World} {K : PySem.W.Frag} {mg : Str → Option Value} {base : Heap} {k : Nat} {x : Str} {sp sp' : Sp} {C : CXT}
theorem Cal.mono (c : Cal P w K mg base C k x sp) {j : Nat} (h : k ≤ j) : Cal P w K mg base C j x sp := by
  obtain ⟨f, fd, ps, F, m, kp, b⟩ := c.ex
  exact ⟨f, fd, ps, F.mono h, m, kp, b⟩
theorem Cal.imp (c : Cal P w K mg base C k x sp) (h : ∀ vs H Q E, sp' vs H Q E → sp vs H Q E) : Cal P w K mg base C k x sp' := by
  obtain ⟨f, fd, ps, F, m, kp, b⟩ := c.ex
  exact ⟨f, fd, ps, F.imp h, m, kp, b⟩
/-- a def as the top leaves it -/
structure Def (K : PySem.W.Frag) (mg : Str → Option Value) (x : Str) (st : Stmt) (ps : List Str) : Prop where
  ex : ∃ (f : Addr) (fd : FuncData), L2.Fun K x x st f fd ∧ mg x = some (.ref f) ∧ Binds K fd ps []
theorem Def.ok {st : Stmt} {N ps : List Str} (D : Def K mg x st ps) (S : FnScope N ps (defScope st)) (len : ∀ vs H Q E, sp vs H Q E → vs.length = ps.length)
    (hbody : ∀ (f : Addr) (cdv : Value) (A : Around) (outer : List Env) (s : Shared) (H : Hp) (vs : List V) (Q : VK) (E : XK), Room k (A.deeper (envOfC x (defScope st) s.heap.objs.size f cdv)) → sp vs H Q E →
      ∃ t, PSs (cxOf CX0 P w K mg base N x (defScope st) f cdv A outer s H E).nox (defBody st) t ∧ t { nx := fun _ H' => Q .non H', rt := Q } (start N vs) H) : Cal P w K mg base CX0 (k + 1) x sp := by
  obtain ⟨f, fd, F, m, b⟩ := D.ex
  exact ⟨f, fd, ps, F.ok S len (hbody f), m, F.kp, b⟩
theorem Def.okX {st : Stmt} {N ps : List Str} (D : Def K mg x st ps) (S : FnScope N ps (defScope st)) (len : ∀ vs H Q E, sp vs H Q E → vs.length = ps.length)
    (hbody : ∀ (f : Addr) (cdv : Value) (A : Around) (outer : List Env) (s : Shared) (H : Hp) (vs : List V) (Q : VK) (E : XK), Room k (A.deeper (envOfC x (defScope st) s.heap.objs.size f cdv)) → sp vs H Q E →
      ∃ t, PSs (cxOf (L2.CX P w) P w K mg base N x (defScope st) f cdv A outer s H E) (defBody st) t ∧ t { nx := fun _ H' => Q .non H', rt := Q } (start N vs) H) : Cal P w K mg base (L2.CX P w) (k + 1) x sp := by
  obtain ⟨f, fd, F, m, b⟩ := D.ex
  exact ⟨f, fd, ps, F.okX S len (hbody f), m, F.kp, b⟩
end
section
variable {X : Cx} {k j : Nat} {x : Str} {sp : Sp} {p pos : Pos} {e : Expr} {es : List Expr} {t : TA} {C : CXT} {E : XK}
theorem pe_cE (c : Cal X.prog X.w X.K X.mg X.base C k x sp) (hr : Room j X.A) (hk : k ≤ j) (hx : Passes C X E) (hg : Gl X x) (ha : PA X (e :: es) t)
    (hdb : (x == ("__debug__" : Str)) = false := by decide) (he : starEach (e :: es) X.env = (false, eval e X.env) :: starEach es X.env := by rfl) (hpl : (backTo pos (starEach es X.env)).any (·.1) = false := by rfl) :
    PE X (.Call (.Name x p) (e :: es) [] pos) (tCall sp [] E t) := by
  obtain ⟨f, fd, ps, F, hm, kp, b⟩ := c.ex
  exact pe_call F (hr.mono hk) hg hm kp b .nil hx ha hdb he hpl
theorem pe_cE0 (c : Cal X.prog X.w X.K X.mg X.base C k x sp) (hr : Room j X.A) (hk : k ≤ j) (hx : Passes C X E) (hg : Gl X x)
    (hdb : (x == ("__debug__" : Str)) = false := by decide) : PE X (.Call (.Name x p) [] [] pos) (tCall sp [] E tNil) := by
  obtain ⟨f, fd, ps, F, hm, kp, b⟩ := c.ex
  exact pe_call0 F (hr.mono hk) hg hm kp b .nil hx hdb
/-- a def that lets nothing out -/
theorem pe_c (c : Cal X.prog X.w X.K X.mg X.base CX0 k x sp) (hr : Room j X.A) (hk : k ≤ j) (hg : Gl X x) (ha : PA X (e :: es) t)
    (hdb : (x == ("__debug__" : Str)) = false := by decide) (he : starEach (e :: es) X.env = (false, eval e X.env) :: starEach es X.env := by rfl) (hpl : (backTo pos (starEach es X.env)).any (·.1) = false := by rfl) :
    PE X (.Call (.Name x p) (e :: es) [] pos) (tCall sp [] E0 t) := pe_cE c hr hk pass0 hg ha hdb he hpl
theorem pe_c0 (c : Cal X.prog X.w X.K X.mg X.base CX0 k x sp) (hr : Room j X.A) (hk : k ≤ j) (hg : Gl X x)
    (hdb : (x == ("__debug__" : Str)) = false := by decide) : PE X (.Call (.Name x p) [] [] pos) (tCall sp [] E0 tNil) := pe_cE0 c hr hk pass0 hg hdb
end
section
variable {X : Cx} {k j : Nat} {x : Str} {sp : Sp} {p pos : Pos} {e : Expr} {es : List Expr} {t : TA} {C : CXT} {E : L2.St → XK}
/-- a call within a try -/
theorem pe_cS (c : Cal X.prog X.w X.K X.mg X.base C k x sp) (hr : Room j X.A) (hk : k ≤ j) (hg : Gl X x) (hx : ∀ σ, PassesAt C X σ (E σ)) (ha : PA X (e :: es) t)
    (hdb : (x == ("__debug__" : Str)) = false := by decide) (he : starEach (e :: es) X.env = (false, eval e X.env) :: starEach es X.env := by rfl) (hpl : (backTo pos (starEach es X.env)).any (·.1) = false := by rfl) : PE X (.Call (.Name x p) (e :: es) [] pos) (tCallS sp E t) := by
  obtain ⟨f, fd, ps, F, hm, kp, b⟩ := c.ex
  exact pe_callS F (hr.mono hk) hg hm kp b hx ha hdb he hpl
end
theorem hu64 {A : Around} {k : Nat} (hr : Room k A) : A.units + 64 < cLine := by have := hr.un; omega
/-! ### numbers -/
theorem small64 {n : Nat} (h : n ≤ 1000000) : n ≤ sizeLine := Nat.le_trans h (by decide)
theorem small64' {n : Nat} (h : n ≤ 1000000) : n < sizeLine := Nat.lt_of_le_of_lt h (by decide)
theorem shl1 {j : Int} (h : 0 ≤ j) (h2 : j ≤ 100000) : CShl 1 j := by
  obtain ⟨n, rfl⟩ := Int.eq_ofNat_of_zero_le h
  exact shl_ok (n := 1) (by decide) (by omega)
theorem shlN {i j : Int} (hi : i.natAbs < 2 ^ 1000) (h : 0 ≤ j) (h2 : j ≤ 100000) : CShl i j := by
  obtain ⟨n, rfl⟩ := Int.eq_ofNat_of_zero_le h
  exact shl_ok (n := 1000) hi (by omega)
theorem pow_pos2 (k : Nat) : (0 : Int) < 2 ^ k := PySem.W.kbt_pos k
/-! ### heaps -/
theorem Same.new {H : Hp} {p : Addr} {o : HO} (h : H p = none) : Same H (upd H p o) := fun b x e => by
  rw [upd_ne (ne_of_none e h)]; exact e
theorem SqL.new {K : PySem.W.Frag} {H : Hp} {p : Addr} {xs : List V} : SqL K (upd H p (.lst xs)) p xs := .inl (.inl upd_same)
theorem SqT.new {K : PySem.W.Frag} {H : Hp} {p : Addr} {xs : List V} : SqT K (upd H p (.tup xs)) p xs := .inl (.inl upd_same)

/-! ### operators in the words that the readings like -/
section
variable {X : Cx}
/-- i << j, i of a usual size -/
theorem op_shlS : OpR X (binaryOp .LShift) (fun x y H Q => ∃ i j : Int, x = .int i ∧ y = .int j ∧ (i.natAbs < 2 ^ 1000 ∧ 0 ≤ j ∧ j ≤ 100000) ∧ Q (.int (i * 2 ^ j.toNat)) H) := by
  intro pins s σ H x y v u Q I rx ry h
  obtain ⟨i, j, rfl, rfl, ⟨c0, c1, c2⟩, q⟩ := h
  exact op_shlW pins s σ H _ _ v u Q I rx ry ⟨i, j, rfl, rfl, shlN c0 c1 c2, q⟩
theorem nat_small {i : Int} (h : i.natAbs ≤ 18446744073709551616) : i.natAbs < 2 ^ 1000 := Nat.lt_of_le_of_lt h (by decide +kernel)
/-- 1 << j -/
theorem op_shl1 : OpR X (binaryOp .LShift) (fun x y H Q => ∃ j : Int, x = .int 1 ∧ y = .int j ∧ (0 ≤ j ∧ j ≤ 100000) ∧ Q (.int (2 ^ j.toNat)) H) := by
  intro pins s σ H x y v u Q I rx ry h
  obtain ⟨j, rfl, rfl, ⟨c1, c2⟩, q⟩ := h
  refine op_shlW pins s σ H _ _ v u Q I rx ry ⟨1, j, rfl, rfl, shl1 c1 c2, ?_⟩
  show Q (.int (1 * 2 ^ j.toNat)) H
  rw [Int.one_mul]; exact q
end
/-- isinstance(x, T) of a value of a type of its own -/
theorem isi_int {K : PySem.W.Frag} {H : Hp} {i : Int} {Q : VK} (q : Q (.bl true) H) : rIsi K [.int i, .ty "int"] H Q := ⟨.int i, .ty "int", _, _, true, rfl, .ty _, .base (.int _), kit_ty (by decide +kernel), q⟩
theorem isi_int_bool {K : PySem.W.Frag} {H : Hp} {i : Int} {Q : VK} (q : Q (.bl false) H) : rIsi K [.int i, .ty "bool"] H Q := ⟨.int i, .ty "bool", _, _, false, rfl, .ty _, .base (.int _), kit_ty (by decide +kernel), q⟩
theorem isi_list {K : PySem.W.Frag} {H : Hp} {a : Addr} {xs : List V} {Q : VK} (h : H a = some (.lst xs)) (q : Q (.bl true) H) : rIsi K [.ref a, .ty "list"] H Q := ⟨.ref a, .ty "list", _, _, true, rfl, .ty _, .base (.lst h), kit_ty (by decide +kernel), q⟩
theorem isi_tup {K : PySem.W.Frag} {H : Hp} {a : Addr} {xs : List V} {Q : VK} (h : H a = some (.tup xs)) (q : Q (.bl true) H) : rIsi K [.ref a, .ty "tuple"] H Q := ⟨.ref a, .ty "tuple", _, _, true, rfl, .ty _, .base (.tup h), kit_ty (by decide +kernel), q⟩
theorem isi_str {K : PySem.W.Frag} {H : Hp} {z : Str} {Q : VK} (q : Q (.bl true) H) : rIsi K [.str z, .ty "str"] H Q := ⟨.str z, .ty "str", _, _, true, rfl, .ty _, .base (.str _), kit_ty (by decide +kernel), q⟩
/-! ### lists of ints -/
theorem at_ints {ns : List Int} {k : Nat} (h : k < ns.length) : atI (ns.map V.int) (k : Int) = some (.int (ns.getD k 0)) := atI_nat (by
  rw [List.getElem?_map, List.getElem?_eq_getElem h, List.getD_eq_getElem?_getD, List.getElem?_eq_getElem h]; rfl)
theorem cut_to (xs : List V) (k : Nat) : cutV xs none (some (k : Int)) = xs.take k := by
  unfold cutV
  rw [HT.sIx_nat, HT.sIx_none, List.drop_zero, Nat.sub_zero]
  rcases Nat.le_total k xs.length with h | h
  · rw [Nat.min_eq_left h]
  · rw [Nat.min_eq_right h, List.take_length, List.take_of_length_le h]
theorem cut_from (xs : List V) (k : Nat) : cutV xs (some (k : Int)) none = xs.drop k := by
  unfold cutV
  rw [HT.sIx_nat, HT.sIx_none]
  rcases Nat.le_total k xs.length with h | h
  · rw [Nat.min_eq_left h]; exact List.take_of_length_le (by rw [List.length_drop]; exact Nat.le_refl _)
  · rw [Nat.min_eq_right h, Nat.sub_self, List.take_zero, List.drop_eq_nil_of_le h]
/-! ### a reading, gone through as far as it goes by sight -/
local macro_rules | `(tactic| walk_at "side") => `(tactic| first
  | (show _ = _; rfl)
  | (show (0 : Int) < _; first | omega | exact pow_pos2 _)
  | (show (0 : Int) ≤ _; omega)
  | (show (0 : Int) ≤ _ ∧ _; constructor <;> omega)
  | (show (0 : Int) < _ ∧ _; constructor <;> omega)
  | (show (_ < _ ∧ _ < _) ∨ (_ < _ ∧ _ < _); first | exact .inl ⟨by omega, by omega⟩ | exact .inr ⟨by omega, by omega⟩))
local macro_rules | `(tactic| walk_at "loop") => `(tactic| (show ∃ W : (Nat → Nat → L2.St → Hp → Prop), _))
local macro_rules | `(tactic| walk_at "go1") => `(tactic| (fail_if_success walk_at "loop"); first
  | refine And.intro (show (_ : Int) ≤ _ by omega) ?_
  | refine ⟨_, rfl, ?_⟩
  | refine ⟨_, _, rfl, rfl, ?_⟩
  | refine ⟨_, rfl, rfl, ?_⟩
  | refine .inl ⟨_, rfl, ?_⟩
  | refine ⟨_, .ty "int", _, _, true, rfl, .ty _, .base (.int _), kit_ty (by decide +kernel), ?_⟩
  | refine ⟨_, .ty "bool", _, _, false, rfl, .ty _, .base (.int _), kit_ty (by decide +kernel), ?_⟩
  | refine ⟨_, .ty "bool", _, _, false, rfl, .ty _, .base (.str _), kit_ty (by decide +kernel), ?_⟩
  | refine ⟨_, .ty "str", _, _, true, rfl, .ty _, .base (.str _), kit_ty (by decide +kernel), ?_⟩
  | refine ⟨_, .ty "list", _, _, true, rfl, .ty _, .base (.lst (by assumption)), kit_ty (by decide +kernel), ?_⟩
  | refine ⟨_, .ty "tuple", _, _, true, rfl, .ty _, .base (.tup (by assumption)), kit_ty (by decide +kernel), ?_⟩
  | refine ⟨_, _, rfl, .inl (by assumption), ?_⟩
  | refine ⟨_, _, rfl, .inr (by assumption), ?_⟩
  | refine ⟨_, _, rfl, ?_⟩
  | refine ⟨_, _, _, _, rfl, rfl, by assumption, at_ints (by omega), ?_⟩
  | refine ⟨_, _, _, _, rfl, rfl, by assumption, rfl, ?_⟩
  | refine iteF ?_
  | refine iteT ?_
  | refine iteNS rfl ?_
  | (refine And.intro ?h1 ?h2; case h1 => first
    | walk_at "side"
    | assumption
    | (show (_ : Nat) ≤ _; omega)
    | (show (_ : Int) ≤ _; omega)
    | (show (_ : Int) < _; omega)
    | (show 0 ≤ sizeLine; decide)
    | (show 1 ≤ sizeLine; decide)
    | (show 2 ≤ sizeLine; decide)
    | (show 3 ≤ sizeLine; decide)
    | (show 4 ≤ sizeLine; decide)
    | (show (_ : Nat) ≤ _; decide)))
local macro_rules | `(tactic| walk_at "go") => `(tactic| repeat walk_at "go1")
/-! ### tests that read alone, loops -/
theorem tor_b {t u : TT} {σ : L2.St} {H : Hp} {Q : Bool → Hp → Prop} (b1 b2 : Bool) (h1 : ∀ Q, Q b1 H → t σ H Q) (h2 : ∀ Q, Q b2 H → u σ H Q) (q : Q (b1 || b2) H) : tOr t u σ H Q := by
  refine h1 _ ?_
  cases b1 with
  | true => rw [if_pos rfl]; exact q
  | false => rw [if_neg (by decide)]; exact h2 _ q
theorem tand_b {t u : TT} {σ : L2.St} {H : Hp} {Q : Bool → Hp → Prop} (b1 b2 : Bool) (h1 : ∀ Q, Q b1 H → t σ H Q) (h2 : ∀ Q, Q b2 H → u σ H Q) (q : Q (b1 && b2) H) : tAnd t u σ H Q := by
  refine h1 _ ?_
  cases b1 with
  | true => rw [if_pos rfl]; exact h2 _ q
  | false => rw [if_neg (by decide)]; exact q
theorem while_ev {c : TT} {tb : TS} {D : Ends} {σ : L2.St} {H : Hp} (Pv : L2.St → Hp → Prop) (μ : L2.St → Hp → Nat) (h0 : Pv σ H)
    (hs : ∀ σ H, Pv σ H → ∃ b : Bool, (∀ Q, Q b H → c σ H Q) ∧ (b = true → tb { D with nx := fun σ' H' => Pv σ' H' ∧ μ σ' H' < μ σ H, ct := fun σ' H' => Pv σ' H' ∧ μ σ' H' < μ σ H, bk := D.nx } σ H) ∧ (b = false → D.nx σ H)) : tWhile c tb D σ H := by
  refine ⟨fun m σ H => m = μ σ H ∧ Pv σ H, ⟨_, rfl, h0⟩, ?_⟩
  rintro m σ H ⟨rfl, p⟩
  obtain ⟨b, h1, h2, h3⟩ := hs σ H p
  refine h1 _ ?_
  cases b with
  | true => exact ⟨_, fun σ' H' ⟨p', l⟩ => ⟨_, l, rfl, p'⟩, h2 rfl⟩
  | false => exact h3 rfl
/-- the loops' bookkeeping, with what follows and what returns told apart -/
theorem for_listD {K : PySem.W.Frag} {a : Addr} {xs : List V} {g : TG} {tb : TS} {nx : L2.St → Hp → Prop} {rt : VK} {σ : L2.St} {H : Hp} (Pv : Nat → L2.St → Hp → Prop) (h0 : Pv 0 σ H) (hl : ∀ i σ H, i ≤ xs.length → Pv i σ H → SqL K H a xs)
    (hs : ∀ i x σ H, xs[i]? = some x → Pv i σ H → g x σ H fun σ2 H2 => tb { nx := Pv (i + 1), rt := rt, bk := nx, ct := Pv (i + 1) } σ2 H2) (hd : ∀ σ H, Pv xs.length σ H → nx σ H) :
    ∃ W : Nat → Nat → L2.St → Hp → Prop, (∃ m, W 0 m σ H) ∧ ∀ i m σ H, W i m σ H → ((Itl K a).stop i H ∧ nx σ H) ∨ ((Itl K a).go i H ∧ ∃ N : L2.St → Hp → Prop, (∀ σ' H', N σ' H' → ∃ m', m' < m ∧ W (i + 1) m' σ' H') ∧
      ∀ x H', (Itl K a).yld i H x H' → g x σ H' fun σ2 H2 => tb { nx := N, rt := rt, bk := nx, ct := N } σ2 H2) := for_list (D := { nx := nx, rt := rt }) Pv h0 hl hs hd
theorem for_rangeD {lo : Int} {n : Nat} {g : TG} {tb : TS} {nx : L2.St → Hp → Prop} {rt : VK} {σ : L2.St} {H : Hp} (Pv : Nat → L2.St → Hp → Prop) (h0 : Pv 0 σ H)
    (hs : ∀ i σ H, i < n → Pv i σ H → g (.int (lo + i)) σ H fun σ2 H2 => tb { nx := Pv (i + 1), rt := rt, bk := nx, ct := Pv (i + 1) } σ2 H2) (hd : ∀ σ H, Pv n σ H → nx σ H) :
    ∃ W : Nat → Nat → L2.St → Hp → Prop, (∃ m, W 0 m σ H) ∧ ∀ i m σ H, W i m σ H → ((Itr lo n).stop i H ∧ nx σ H) ∨ ((Itr lo n).go i H ∧ ∃ N : L2.St → Hp → Prop, (∀ σ' H', N σ' H' → ∃ m', m' < m ∧ W (i + 1) m' σ' H') ∧
      ∀ x H', (Itr lo n).yld i H x H' → g x σ H' fun σ2 H2 => tb { nx := N, rt := rt, bk := nx, ct := N } σ2 H2) := for_range (D := { nx := nx, rt := rt }) Pv h0 hs hd
/-! ### a comprehension that makes f of each item -/
theorem lc_map {K : PySem.W.Frag} {a : Addr} {xs : List V} {j : Nat} {te : TE} {σ : L2.St} {H1 : Hp} {D : Addr} {Qd : Hp → Prop} (f : V → V) (hD : H1 D = none) (hS : SqL K H1 a xs) (hn : xs.length ≤ 100000)
    (hs : ∀ x H Q, x ∈ xs → Same H1 H → (∀ H', Same H H' → Q (f x) H') → te ((σ.set j none).set j (some x)) H Q) (hd : ∀ H, Same H1 H → H D = some (.lst (xs.map f)) → Qd H) :
    ∃ W : Nat → Nat → Hp → Prop, (∃ m, W 0 m (upd H1 D (.lst []))) ∧ ∀ i m H, W i m H →
      ((Itl K a).stop i H ∧ Qd H) ∨ ((Itl K a).go i H ∧ ∃ Nx : Hp → Prop, (∀ H', Nx H' → ∃ m', m' < m ∧ W (i + 1) m' H') ∧ ∀ x H', (Itl K a).yld i H x H' → gName j x (wipe σ [j]) H' fun σ2 H2 => wipe σ2 [j] = wipe σ [j] ∧ tYes σ2 H2 fun b H3 =>
        if b = true then te σ2 H3 fun y H4 => ∃ acc, H4 D = some (.lst acc) ∧ acc.length < sizeLine ∧ Nx (upd H4 D (.lst (acc ++ [y]))) else Nx H3) := by
  refine lc_list (xs := xs) (fun i H => Same H1 H ∧ H D = some (.lst ((xs.take i).map f))) ⟨Same.new hD, by rw [upd_same]; rfl⟩ (fun i H _ h => h.1.seq hS) (fun i x H hx h => ?_) (fun H h => hd H h.1 (by rw [List.take_length] at h; exact h.2))
  have hi : i < xs.length := (List.getElem?_eq_some_iff.mp hx).1
  refine ⟨?_, ?_⟩
  · show (((σ.set j none).set j (some x)).set j none) = σ.set j none
    rw [List.set_set, List.set_set]
  · simp only [tYes, if_true]
    refine hs x H _ (List.mem_of_getElem? hx) h.1 fun H' s' => ?_
    refine ⟨_, s' _ _ h.2, ?_, fun b o e => ?_, ?_⟩
    · rw [List.length_map, List.length_take]; exact small64' (by omega)
    · have nb : b ≠ D := fun z => by rw [z, hD] at e; cases e
      rw [upd_ne nb]; exact s' _ _ (h.1 _ _ e)
    · rw [upd_same, List.take_add_one, hx, List.map_append]; rfl

/-! ### own errors with fields -/
/-- what the top has written of an own error's class, whose base is ValueError by some way -/
structure ExK (K : PySem.W.Frag) (mg : Str → Option Value) (x : Str) (C : Addr) : Prop where
  g : mg x = some (.ref C)
  T : OexC K C
  ga : PySem.W.findIn K (.ref C) "__getattribute__" = some (some (.builtin "BaseException.__getattribute__"))
  gg : PySem.W.findIn K (.ref C) "__getattr__" = some none
  hd : PySem.W.hasDictIn K C = true
  ca : PySem.W.findIn K (.ref C) "__class__" = some (some (.builtin "object.__class__"))
  sp : PySem.W.specialIn K (.builtin "object.__class__") "__get__" = some (some (.builtin "getset_descriptor.__get__"))
  tk : PySem.W.takesIn K (.builtin "object.__class__") = some true
  mr : PySem.W.mroIn K C (.type "object") = some true
theorem ExK.xf {K : PySem.W.Frag} {mg : Str → Option Value} {x : Str} {C : Addr} (k : ExK K mg x C) : XfC K C := ⟨k.ga, k.gg, k.T.exC, k.hd⟩
def spI1 (K : PySem.W.Frag) (C : Addr) (a : Str) : Sp := fun vs H Q _ => ∃ (s : Addr) (v : V), vs = [.ref s, v] ∧ H s = some (exo s C none) ∧
  ∀ d, H d = none → d ≠ s → Q .non (upd (upd H d (exd d [(a, v)])) s (exo s C (some d)))
def spI2 (K : PySem.W.Frag) (C : Addr) (a b : Str) : Sp := fun vs H Q _ => ∃ (s : Addr) (v u : V), vs = [.ref s, v, u] ∧ H s = some (exo s C none) ∧
  ∀ d, H d = none → d ≠ s → Q .non (upd (upd (upd H d (exd d [(a, v)])) s (exo s C (some d))) d (exd d [(b, u), (a, v)]))
theorem del_upd {H : Hp} {s d : Addr} {o o' : HO} (hs : H s = none) (hd : H d = none) (ne : d ≠ s) {K : Hp} (hK : ∀ b, b ≠ s → b ≠ d → K b = H b) : Same H (upd (del K s) d o) := fun b x e => by
  have nd : b ≠ d := ne_of_none e hd
  have ns : b ≠ s := ne_of_none e hs
  rw [upd_ne nd, del_ne ns, hK b ns nd]; exact e
/-- X(v): an error flies whose dict, new at d, holds the field; all else stands -/
theorem fly1 {K : PySem.W.Frag} {C : Addr} {a : Str} {v : V} {H : Hp} {Q : XK} (h : ∀ d Hf, Same H Hf → Hf d = some (.xd [(a, v)]) → Q (.ref C) (some d) Hf) :
    ([v] : List V).length ≤ 1000 ∧ ∀ s, H s = none → spI1 K C a (.ref s :: ([v] ++ [])) (upd H s (exo s C none))
      (fun v H2 => v = .non ∧ ∃ (d : Addr) (fs : List (Str × V)), H2 s = some (exo s C (some d)) ∧ H2 d = some (exd d fs) ∧ H d = none ∧ Q (.ref C) (some d) (upd (del H2 s) d (.xd fs))) (fun _ _ _ => False) := by
  refine ⟨by show 1 ≤ 1000; decide, fun s hs => ⟨s, v, rfl, upd_same, fun d hd ne => ⟨rfl, d, [(a, v)], upd_same, ?_, ?_, ?_⟩⟩⟩
  · rw [upd_ne ne, upd_same]
  · rw [upd_ne ne] at hd; exact hd
  · have hd' : H d = none := by rw [upd_ne ne] at hd; exact hd
    refine h d _ (del_upd (o' := .lst []) hs hd' ne fun b nb nd => ?_) upd_same
    rw [upd_ne nb, upd_ne nd, upd_ne nb]
theorem fly2 {K : PySem.W.Frag} {C : Addr} {a b : Str} {v u : V} {H : Hp} {Q : XK} (h : ∀ d Hf, Same H Hf → Hf d = some (.xd [(b, u), (a, v)]) → Q (.ref C) (some d) Hf) :
    ([v, u] : List V).length ≤ 1000 ∧ ∀ s, H s = none → spI2 K C a b (.ref s :: ([v, u] ++ [])) (upd H s (exo s C none))
      (fun v H2 => v = .non ∧ ∃ (d : Addr) (fs : List (Str × V)), H2 s = some (exo s C (some d)) ∧ H2 d = some (exd d fs) ∧ H d = none ∧ Q (.ref C) (some d) (upd (del H2 s) d (.xd fs))) (fun _ _ _ => False) := by
  refine ⟨by show 2 ≤ 1000; decide, fun s hs => ⟨s, v, u, rfl, upd_same, fun d hd ne => ⟨rfl, d, [(b, u), (a, v)], ?_, upd_same, ?_, ?_⟩⟩⟩
  · rw [upd_ne ne.symm, upd_same]
  · rw [upd_ne ne] at hd; exact hd
  · have hd' : H d = none := by rw [upd_ne ne] at hd; exact hd
    refine h d _ (del_upd (o' := .lst []) hs hd' ne fun b nb nd => ?_) upd_same
    rw [upd_ne nd, upd_ne nb, upd_ne nd, upd_ne nb]
section
variable {P : Program} {w : World} {K : PySem.W.Frag} {mg : Str → Option Value} {base : Heap} {C f : Addr} {fd : FuncData} {qual : Str}
/-- an __init__ that stores its one parameter, its two parameters, under their names -/
theorem init1 {st : Stmt} {a : Str} (F : L2.Fun K "__init__" qual st f fd) (S : FnScope ["self", a] ["self", a] (defScope st)) (T : OexC K C) (na : PySem.W.findIn K (.ref C) a = some none) {p1 p2 p3 p4 : Pos} (hb : defBody st = [.Assign [.Attribute (.Name "self" p1) a p2] (.Name a p3) p4])
    (va : Vis (defScope st) a) (vs : Vis (defScope st) "self") (d1 : (a == ("__debug__" : Str)) = false) (d2 : (a == ("__classdict__" : Str)) = false) : FnOk P w K mg base CX0 1 f fd ["self", a] (spI1 K C a) := by
  refine F.ok S (fun vs H Q E h => ?_) (fun cdv A outer s H vs Q E hr h => ?_)
  · obtain ⟨s, v, rfl, _⟩ := h; rfl
  · obtain ⟨s, v, rfl, hs, q⟩ := h
    rw [hb]
    refine ⟨_, pss_one (ps_ost (pe_var (i := 0) rfl (by assumption)) (pe_var (i := 1) rfl (by assumption) d1 d2)), ?_⟩
    exact ⟨_, rfl, _, rfl, s, C, rfl, T, na, .inl ⟨hs, fun d hd ne => q d hd ne⟩⟩
theorem init2 {st : Stmt} {a b : Str} (F : L2.Fun K "__init__" qual st f fd) (S : FnScope ["self", a, b] ["self", a, b] (defScope st)) (T : OexC K C) (na : PySem.W.findIn K (.ref C) a = some none) (nb : PySem.W.findIn K (.ref C) b = some none) {p1 p2 p3 p4 q1 q2 q3 q4 : Pos}
    (hb : defBody st = [.Assign [.Attribute (.Name "self" p1) a p2] (.Name a p3) p4, .Assign [.Attribute (.Name "self" q1) b q2] (.Name b q3) q4])
    (va : Vis (defScope st) a) (vb : Vis (defScope st) b) (vs : Vis (defScope st) "self") (d1 : (a == ("__debug__" : Str)) = false) (d2 : (a == ("__classdict__" : Str)) = false) (d3 : (b == ("__debug__" : Str)) = false) (d4 : (b == ("__classdict__" : Str)) = false) : FnOk P w K mg base CX0 1 f fd ["self", a, b] (spI2 K C a b) := by
  refine F.ok S (fun vs H Q E h => ?_) (fun cdv A outer s H vs Q E hr h => ?_)
  · obtain ⟨s, v, u, rfl, _⟩ := h; rfl
  · obtain ⟨s, v, u, rfl, hs, q⟩ := h
    rw [hb]
    refine ⟨_, pss_cons (ps_ost (pe_var (i := 0) rfl (by assumption)) (pe_var (i := 1) rfl (by assumption) d1 d2)) (pss_one (ps_ost (pe_var (i := 0) rfl (by assumption)) (pe_var (i := 2) rfl (by assumption) d3 d4))), ?_⟩
    refine ⟨_, rfl, _, rfl, s, C, rfl, T, na, .inl ⟨hs, fun d hd ne => ?_⟩⟩
    exact ⟨_, rfl, _, rfl, s, C, rfl, T, nb, .inr ⟨d, _, upd_same, by rw [upd_ne ne, upd_same], (by show 1 ≤ 900; decide), q d hd ne⟩⟩
end
/-- isinstance(e, c), e the caught error at a, of the class D, its dict at dd -/
theorem call_isX {X : Cx} {a D : Addr} {oe : Obj} {cls : Value} {d : Option Addr} {pn : List (Addr × Obj)} (hz : Zc cls d oe) (hf : ∃ vs, oe.data = .fields vs) {x : Str} (k : ExK X.K X.mg x D) : CallR (X.suite a ((a, oe) :: pn)) (.builtin "isinstance")
    (fun xs H Q => ∃ (c : V) (cv : Value) (b : Bool) (dd : Addr) (fs : List (Str × V)), xs = [.ref a, c] ∧ cls = .ref D ∧ d = some dd ∧ H dd = some (.xd fs) ∧ RelV c cv ∧ (∀ u, RelV c u → u = cv) ∧ PySem.W.kitOne X.K (.ref D) cv = some b ∧ Q (.bl b) H) := by
  intro pins s σ H xs us Q I r h
  obtain ⟨c, cv, b, dd, fs, rfl, rfl, rfl, ea, _, hcv, e, q⟩ := h
  obtain ⟨u1, u2, rfl, r1, r2⟩ := vals2 r
  cases r1
  have ec := hcv _ r2
  subst ec
  obtain ⟨hget, _⟩ := I.pin (a, oe) (List.mem_append.mpr (.inl List.mem_cons_self))
  obtain ⟨vs, hv⟩ := hf
  have hx : ObjOk X.prog X.w H s.heap dd (.xd fs) := I.hok dd _ ea
  obtain ⟨mA, ⟨od, es, ep, ho, hl⟩, hr⟩ := hx
  have J : PySem.W.InstAt s.heap a oe D (some od) := ⟨hget, hz.1, by unfold PySem.W.notCls; rw [hv] <;> rfl, by rw [hz.2]; exact ho⟩
  have hc : (PySem.W.clsIn X.K D).isSome = true := by
    have h := k.hd
    unfold PySem.W.hasDictIn at h
    cases hh : PySem.W.clsIn X.K D with
    | none => rw [hh] at h; cases h
    | some cd => rfl
  exact PySem.W.kia_one (PySem.W.kitx_exc hc k.ga k.gg k.T.exC k.ca k.sp k.tk k.mr) I.kIn J e (fun z => nomatch z) fun tk => ⟨.bl b, H, I.kept (t' := tk) fun _ _ z => z, rfl, q⟩
/-- what isinstance and an except clause ask of own classes -/
theorem kit_self {K : PySem.W.Frag} {C : Addr} : PySem.W.kitOne K (.ref C) (.ref C) = some true := by
  unfold PySem.W.kitOne
  rw [if_pos (by exact beq_self_eq_true (Value.ref C))]
theorem kit_two {K : PySem.W.Frag} {D C : Addr} {b : Bool} (ne : (Value.ref D == Value.ref C) = false) (hd : PySem.W.hasDictIn K C = true) (ht : PySem.W.typeIn K (.ref C) = some (.type "type")) (hs : PySem.W.subIn K (.ref D) (.ref C) = some b) : PySem.W.kitOne K (.ref D) (.ref C) = some b := by
  have hc : (PySem.W.clsIn K C).isSome = true := by
    unfold PySem.W.hasDictIn at hd
    cases hh : PySem.W.clsIn K C with
    | none => rw [hh] at hd; cases hd
    | some cd => rfl
  unfold PySem.W.kitOne PySem.W.kitCls
  rw [ne, if_neg (by decide)]
  show (if ((PySem.W.clsIn K C).isSome && PySem.W.typeIn K (.ref C) == some (.type "type")) = true then PySem.W.subIn K (.ref D) (.ref C) else none) = some b
  rw [hc, ht, hs]; rfl
theorem kit_ve {K : PySem.W.Frag} {D : Addr} (hs : PySem.W.subIn K (.ref D) (.type "ValueError") = some true) : PySem.W.kitOne K (.ref D) (.type "ValueError") = some true := by
  unfold PySem.W.kitOne PySem.W.kitCls
  rw [show (Value.ref D == Value.type "ValueError") = false from rfl, if_neg (by decide)]
  show (if PySem.W.kitMeta "ValueError" = true then PySem.W.subIn K (.ref D) (.type "ValueError") else none) = some true
  rw [if_pos (by decide +kernel), hs]

/-! ### written tables of the module -/
/-- a statement that is never come to -/
def tNever : TS := fun _ _ _ => False
theorem ps_never {X : Cx} {s : Stmt} : PS X s tNever := ⟨fun _ _ _ _ _ _ h => h.elim⟩
theorem sqT_same {K : PySem.W.Frag} {H H' : Hp} {a : Addr} {xs : List V} (e : Same H H') (h : SqT K H a xs) : SqT K H' a xs := by
  rcases h with (h | ⟨o, h⟩) | h
  · exact .inl (.inl (e _ _ h))
  · exact .inl (.inr ⟨o, e _ _ h⟩)
  · exact .inr h
/-- a comprehension over a tuple -/
theorem lc_mapT {K : PySem.W.Frag} {a : Addr} {xs : List V} {j : Nat} {te : TE} {σ : L2.St} {H1 : Hp} {D : Addr} {Qd : Hp → Prop} (f : V → V) (hD : H1 D = none) (hS : SqT K H1 a xs) (hn : xs.length ≤ 100000)
    (hs : ∀ x H Q, x ∈ xs → Same H1 H → (∀ H', Same H H' → Q (f x) H') → te ((σ.set j none).set j (some x)) H Q) (hd : ∀ H, Same H1 H → H D = some (.lst (xs.map f)) → Qd H) :
    ∃ W : Nat → Nat → Hp → Prop, (∃ m, W 0 m (upd H1 D (.lst []))) ∧ ∀ i m H, W i m H →
      ((Itt K a).stop i H ∧ Qd H) ∨ ((Itt K a).go i H ∧ ∃ Nx : Hp → Prop, (∀ H', Nx H' → ∃ m', m' < m ∧ W (i + 1) m' H') ∧ ∀ x H', (Itt K a).yld i H x H' → gName j x (wipe σ [j]) H' fun σ2 H2 => wipe σ2 [j] = wipe σ [j] ∧ tYes σ2 H2 fun b H3 =>
        if b = true then te σ2 H3 fun y H4 => ∃ acc, H4 D = some (.lst acc) ∧ acc.length < sizeLine ∧ Nx (upd H4 D (.lst (acc ++ [y]))) else Nx H3) := by
  refine lc_tup (xs := xs) (fun i H => Same H1 H ∧ H D = some (.lst ((xs.take i).map f))) ⟨Same.new hD, by rw [upd_same]; rfl⟩ (fun i H _ h => sqT_same h.1 hS) (fun i x H hx h => ?_) (fun H h => hd H h.1 (by rw [List.take_length] at h; exact h.2))
  have hi : i < xs.length := (List.getElem?_eq_some_iff.mp hx).1
  refine ⟨?_, ?_⟩
  · show (((σ.set j none).set j (some x)).set j none) = σ.set j none
    rw [List.set_set, List.set_set]
  · simp only [tYes, if_true]
    refine hs x H _ (List.mem_of_getElem? hx) h.1 fun H' s' => ?_
    refine ⟨_, s' _ _ h.2, ?_, fun b o e => ?_, ?_⟩
    · rw [List.length_map, List.length_take]; exact small64' (by omega)
    · have nb : b ≠ D := fun z => by rw [z, hD] at e; cases e
      rw [upd_ne nb]; exact s' _ _ (h.1 _ _ e)
    · rw [upd_same, List.take_add_one, hx, List.map_append]; rfl
theorem for_zipD {K : PySem.W.Frag} {a b : Addr} {xs ys : List V} {g : TG} {tb : TS} {nx : L2.St → Hp → Prop} {rt : VK} {σ : L2.St} {H : Hp} (hl : xs.length = ys.length) (Pv : Nat → L2.St → Hp → Prop) (h0 : Pv 0 σ H) (hq : ∀ i σ H, Pv i σ H → SqT K H a xs ∧ SqT K H b ys)
    (hs : ∀ (i : Nat) (x y : V) (T : Addr) (σ : L2.St) (H : Hp), xs[i]? = some x → ys[i]? = some y → Pv i σ H → H T = none → g (.ref T) σ (upd H T (.tup [x, y])) fun σ2 H2 => tb { nx := Pv (i + 1), rt := rt, bk := nx, ct := Pv (i + 1) } σ2 H2) (hd : ∀ σ H, Pv xs.length σ H → nx σ H) :
    ∃ W : Nat → Nat → L2.St → Hp → Prop, (∃ m, W 0 m σ H) ∧ ∀ i m σ H, W i m σ H → ((RZ.ItzT K a b).stop i H ∧ nx σ H) ∨ ((RZ.ItzT K a b).go i H ∧ ∃ N : L2.St → Hp → Prop, (∀ σ' H', N σ' H' → ∃ m', m' < m ∧ W (i + 1) m' σ' H') ∧
      ∀ x H', (RZ.ItzT K a b).yld i H x H' → g x σ H' fun σ2 H2 => tb { nx := N, rt := rt, bk := nx, ct := N } σ2 H2) := RZ.for_zipT (D := { nx := nx, rt := rt }) hl Pv h0 hq hs hd
/-- a written tuple of texts -/
structure TupS (K : PySem.W.Frag) (a : Addr) (zs : List Str) : Prop where
  ex : ∃ (o : Obj) (its : Array Value) (n : Nat), K.lookup a = some o ∧ o.cls = .type "tuple" ∧ o.data = .seq its n ∧ its.size ≤ sizeLine ∧ Vals (zs.map V.str) its.toList
def chkS : List Str → List Value → Bool
  | [], [] => true
  | z :: zs, .str y _ :: us => decide (z = y) && chkS zs us
  | _, _ => false
theorem vals_strs : ∀ (zs : List Str) (us : List Value), chkS zs us = true → Vals (zs.map V.str) us
  | [], [], _ => .nil
  | z :: zs, u :: us, h => by
    cases u with
    | str y t =>
      have h' : (decide (z = y) && chkS zs us) = true := h
      rw [Bool.and_eq_true] at h'
      have r : RelV (V.str z) (.str y t) := by
        rw [of_decide_eq_true h'.1]
        exact ⟨t, rfl⟩
      exact .cons r (vals_strs zs us h'.2)
    | _ => cases h
  | [], _ :: _, h => nomatch h
  | _ :: _, [], h => nomatch h
theorem TupS.sq {K : PySem.W.Frag} {a : Addr} {zs : List Str} {H : Hp} (t : TupS K a zs) : SqT K H a (zs.map V.str) := .inr t.ex
def Rows (P : Params) : List DictEntry → List (Str × V) → Prop
  | [], [] => True
  | e :: r, (x, v) :: q => (∃ t, e.key = .str x t) ∧ e.hash = PyData.keyHash P x ∧ RelV v e.val ∧ Rows P r q
  | _, _ => False
/-- a written dict with text keys -/
structure DicV (K : PySem.W.Frag) (w : World) (a : Addr) (kvs : List (Str × V)) : Prop where
  ex : ∃ (es : Array DictEntry) (n : Nat), K.lookup a = some ⟨.type "dict", none, .dict es n, #[]⟩ ∧ (a == sysModules) = false ∧ Rows w.params es.toList kvs
def valS (kvs : List (Str × V)) (z : Str) : Option V := (kvs.find? fun p => decide (p.1 = z)).map (·.2)
theorem Rows.lit {P : Params} : ∀ {l : List DictEntry} {q : List (Str × V)}, Rows P l q → PySem.W.KeysLit P l
  | [], _, _ => True.intro
  | e :: r, [], h => nomatch h
  | e :: r, (x, v) :: q, ⟨⟨t, h1⟩, h2, _, h4⟩ => ⟨⟨x, t, h1, h2⟩, h4.lit⟩
theorem Rows.noref {P : Params} : ∀ {l : List DictEntry} {q : List (Str × V)}, Rows P l q → l.any (·.refKey) = false
  | [], _, _ => rfl
  | e :: r, [], h => nomatch h
  | e :: r, (x, v) :: q, ⟨⟨t, h1⟩, _, _, h4⟩ => by
    rw [List.any_cons, h4.noref, Bool.or_false]
    unfold DictEntry.refKey
    rw [h1]
theorem isStrOf_eq (z x : Str) (t : Tok) : Value.isStrOf z (.str x t) = decide (x = z) := by
  by_cases c : x = z
  · rw [decide_eq_true c, c]; simp [Value.isStrOf]
  · rw [decide_eq_false c]; simp [Value.isStrOf, c, Ne.symm c]
theorem Rows.find {P : Params} (z : Str) : ∀ {l : List DictEntry} {q : List (Str × V)}, Rows P l q → (match valS q z with
    | none => l.find? (·.key.isStr z) = none
    | some v => ∃ e, l.find? (·.key.isStr z) = some e ∧ RelV v e.val)
  | [], [], _ => rfl
  | [], _ :: _, h => nomatch h
  | e :: r, [], h => nomatch h
  | e :: r, (x, v) :: q, ⟨⟨t, h1⟩, _, h3, h4⟩ => by
    have ek : e.key.isStr z = decide (x = z) := by
      rw [h1, PySem.W.isStr_of]
      show Value.isStrOf z (.str x t) = _
      exact isStrOf_eq z x t
    have ih := h4.find z
    unfold valS at ih ⊢
    rw [List.find?_cons, List.find?_cons, ek]
    by_cases c : x = z
    · rw [decide_eq_true c]
      exact ⟨e, rfl, h3⟩
    · rw [decide_eq_false c]
      exact ih
theorem DicV.kd {K : PySem.W.Frag} {w : World} {a : Addr} {kvs : List (Str × V)} (d : DicV K w a kvs) : ∃ es n, KDict K w a es n := by
  obtain ⟨es, n, h1, h2, h3⟩ := d.ex
  exact ⟨es, n, h1, h3.lit, h2⟩
theorem DicV.ns {K : PySem.W.Frag} {w : World} {a : Addr} {kvs : List (Str × V)} (d : DicV K w a kvs) (z : Str) : match valS kvs z with
    | none => PySem.W.nsIn K a z = some none
    | some v => ∃ u, PySem.W.nsIn K a z = some (some u) ∧ RelV v u := by
  obtain ⟨es, n, h1, h2, h3⟩ := d.ex
  have h := h3.find z
  unfold PySem.W.nsIn
  rw [h1]
  split
  · rename_i e
    rw [e] at h
    simp only [h, h3.noref]
    rfl
  · rename_i v e
    rw [e] at h
    obtain ⟨en, h5, h6⟩ := h
    simp only [h5]
    exact ⟨_, rfl, h6⟩
section
variable {X : Cx} {d : Addr} {kvs : List (Str × V)}
def rInT (d : Addr) (kvs : List (Str × V)) : R2 := fun x y H Q => ∃ z : Str, x = .str z ∧ y = .ref d ∧ Q (.bl (valS kvs z).isSome) H
theorem op_inT (D : DicV X.K X.w d kvs) : OpR X (compareOp .In) (rInT d kvs) := by
  intro pins s σ H x y v u Q I rx ry h
  obtain ⟨z, rfl, rfl, q⟩ := h
  obtain ⟨es, n, k⟩ := D.kd
  have hn := D.ns z
  cases e : valS kvs z with
  | none =>
    rw [e] at hn q
    exact op_in_kd k pins s σ H _ _ v u Q I rx ry ⟨z, none, rfl, rfl, hn, q⟩
  | some v0 =>
    rw [e] at hn q
    obtain ⟨u0, hn, _⟩ := hn
    exact op_in_kd k pins s σ H _ _ v u Q I rx ry ⟨z, some u0, rfl, rfl, hn, q⟩
def rIxT (d : Addr) (kvs : List (Str × V)) : R2 := fun x y H Q => ∃ (z : Str) (v : V), x = .ref d ∧ y = .str z ∧ valS kvs z = some v ∧ Q v H
theorem ix_T (D : DicV X.K X.w d kvs) : IxR X (rIxT d kvs) := by
  intro value slice pins s σ H x y v u Q I rx ry h hs
  obtain ⟨z, v0, rfl, rfl, e, q⟩ := h
  have hn := D.ns z
  rw [e] at hn
  obtain ⟨u0, hn, hr⟩ := hn
  obtain ⟨es, n, h1, h2, h3⟩ := D.ex
  exact ix_kdict value slice pins s σ H (.ref d) (.str z) v u Q I rx ry ⟨d, z, v0, rfl, rfl, ⟨es, n, u0, h1, h3.lit, hn, hr⟩, q⟩ hs
def tGet2T (d : Addr) (kvs : List (Str × V)) (td ty tx : TE) : TE := fun σ H Q => td σ H fun x H1 => x = .ref d ∧ ty σ H1 fun y H2 => tx σ H2 fun v H3 => ∃ z : Str, y = .str z ∧ Q ((valS kvs z).getD v) H3
theorem pe_get2T {o e f : Expr} {apos cpos : Pos} {td ty tx : TE} (D : DicV X.K X.w d kvs) (ho : PE X o td) (he : PE X e ty) (hf : PE X f tx) (m : M2 X o "get" apos e f cpos) : PE X (.Call (.Attribute o "get" apos) [e, f] [] cpos) (tGet2T d kvs td ty tx) := by
  refine ⟨fun pins s σ H Q I h => ?_⟩
  refine wpAny_Call_method m.base m.few m.line PySem.F.plainAttrs_dict PySem.F.slot_dict_get PySem.F.type_dict_get (thn (ho.run pins s σ H _ I h) fun u s1 ⟨x, H1, I1, rx, ex, q1⟩ => ?_)
  subst ex
  obtain rfl : u = Value.ref d := rx
  obtain ⟨es, n, h1, h2, h3⟩ := D.ex
  have dd : ∀ {pins : List (Addr × Obj)} {σ : L2.St} {H : Hp} {s : Shared}, Inv X pins σ H s → _ := fun I => PySem.W.mapOf_K (prog := X.prog) (w := X.w) I.kIn h1 h3.lit
  refine ⟨(dd I1).typeIs, fun b q => ?_, ?_⟩
  · cases q
    obtain ⟨ob, _, _, hg, hx, _⟩ := id (dd I1)
    exact ⟨ob, hg, hx.2.1⟩
  rw [m.trees]
  refine Calls.callWith_builtin rfl (Calls.evalArgs_plain (Calls.spliced_cons (thn (he.run pins s1 σ H1 _ I1 q1) fun iv s2 ⟨y, H2, I2, ry, q2⟩ =>
    Calls.spliced_cons (thn (hf.run pins s2 σ H2 _ I2 q2) fun fv s3 ⟨v, H3, I3, rv, z, ez, q3⟩ => Calls.spliced_nil ?_))))
  subst ez
  obtain ⟨t, rfl⟩ := ry
  refine call_meetsIn PySem.F.slot_dict_get (dd I3).typeIs PySem.F.entry_dict_get (PySem.F.args_dict_get_3 _ _ _) (meets_dict_get_default (strKind X.prog X.w) d (strKind_is X.prog X.w z t) h2 fv) ⟨_, dd I3, ?_⟩
  have hn := D.ns z
  refine ⟨(valS kvs z).getD v, H3, I3.tok _, ?_, q3⟩
  cases e : valS kvs z with
  | none =>
    rw [e] at hn
    rw [PySem.W.find_K h1 hn]
    exact rv
  | some v0 =>
    rw [e] at hn
    obtain ⟨u0, hn, hr⟩ := hn
    rw [PySem.W.find_K h1 hn]
    exact hr
/-- a call of a local that holds one of several defs; each may let out what X.xe takes -/
def tCallT (i : Nat) (S : Addr → Sp → Prop) (E : XK) (t : TA) : TE := fun σ H Q => ∃ f sp, σ[i]? = some (some (.ref f)) ∧ S f sp ∧ t σ H fun vs H1 => sp vs H1 Q E
theorem pe_callT {S : Addr → Sp → Prop} {C : CXT} {E : XK} {k j : Nat} {i : Nat} {x : Str} {p pos : Pos} {es : List Expr} {t : TA} (A : ∀ f sp, S f sp → ∃ (y : Str), Cal X.prog X.w X.K X.mg X.base C k y sp ∧ X.mg y = some (.ref f)) (hr : Room j X.A) (hk : k ≤ j) (hN : X.N[i]? = some x) (hv : Vis X.env.scope x)
    (hx : Passes C X E) (ha : PA X (e :: es) t)
    (hdb : (x == ("__debug__" : Str)) = false := by decide) (hcd : (x == ("__classdict__" : Str)) = false := by decide)
    (he : starEach (e :: es) X.env = (false, eval e X.env) :: starEach es X.env := by rfl) (hpl : (backTo pos (starEach es X.env)).any (·.1) = false := by rfl) : PE X (.Call (.Name x p) (e :: es) [] pos) (tCallT i S E t) := by
  refine ⟨fun pins s σ H Q I h => ?_⟩
  obtain ⟨f, sp, hs, hS, ht⟩ := h
  obtain ⟨y, c, hy⟩ := A f sp hS
  obtain ⟨f', fd, ps, F, hm, kp, b⟩ := c.ex
  obtain rfl : f' = f := by rw [hm] at hy; cases hy; rfl
  refine (pe_callL (i := i) (f := f') (sp := sp) (dvs := []) (E := E) F (hr.mono hk) hN hv kp b .nil hx ha hdb hcd he hpl).run pins s σ H Q I ⟨hs, ?_⟩
  have e0 : (fun (vs : List V) (H1 : Hp) => sp (vs ++ []) H1 Q E) = fun vs H1 => sp vs H1 Q E := by
    funext vs H1
    rw [List.append_nil]
  rw [e0]
  exact ht
end

/-! ### sorted(texts), any number of them -/
def rSortedSA (K : PySem.W.Frag) : List V → Hp → VK → Prop := fun vs H Q => ∃ (a : Addr) (xs : List Str), vs = [V.ref a] ∧ SqL K H a (xs.map V.str) ∧ xs.length ≤ sizeLine ∧
  ∀ (ys : List Str) (p : Addr), ys.Perm xs → sortedS ys = true → H p = none → Q (.ref p) (upd H p (.lst (ys.map V.str)))
theorem cr_sortedSA {X : Cx} : CallR X (.builtin "sorted") (rSortedSA X.K) := by
  intro pins s σ H vs us Q I r h
  obtain ⟨a, xs, rfl, hs, h64, q⟩ := h
  obtain ⟨its, rv, hl, _⟩ := I.list hs
  rw [Vals.ref1 r]
  have hlen0 := rv.length
  rw [List.length_map] at hlen0
  refine PyProof.Rows.sorted_strsAny hl.isList rv.strs (by rw [← hlen0]; exact h64) fun out ys h1 h2 h3 => ?_
  obtain ⟨ep, he'⟩ := PyProof.Rows.sortedAll_at s.heap its out
  have hlen : (ys.map V.str).length ≤ sizeLine := by rw [List.length_map, h2.length_eq]; exact h64
  exact ⟨.ref _, upd H (s.heap.objs.size + 1) (.lst (ys.map V.str)), I.laid (t' := s.toks) (fun _ _ => PyProof.Rows.sortedAll_old) (Nat.le_succ _) ⟨hlen, out.toList, ep, vals_of_strs h1, he'⟩, rfl, q ys _ h2 h3 (I.hok.fresh (Nat.le_succ _))⟩
theorem ltf {a b : List Nat} : ltCps b a = false ↔ a ≤ b := by rw [PyProof.Rows.ltCps_eq, decide_eq_false_iff_not]; exact List.not_lt
theorem rising_all : ∀ (l : List Str) (p : Str), risingS p l = true → (p :: l).Pairwise (fun a b => ltCps b.cps.toList a.cps.toList = false)
  | [], p, _ => List.pairwise_singleton _ _
  | x :: r, p, h => by
    have h' : (!ltCps x.cps.toList p.cps.toList && risingS x r) = true := h
    rw [Bool.and_eq_true] at h'
    have h1 : ltCps x.cps.toList p.cps.toList = false := by simpa using h'.1
    have ih := rising_all r x h'.2
    refine List.pairwise_cons.mpr ⟨fun b hb => ?_, ih⟩
    rcases List.mem_cons.mp hb with rfl | hb
    · exact h1
    · have h2 := (List.pairwise_cons.mp ih).1 b hb
      exact ltf.mpr (List.le_trans (ltf.mp h1) (ltf.mp h2))
theorem sorted_all {l : List Str} (h : sortedS l = true) : l.Pairwise (fun a b => ltCps b.cps.toList a.cps.toList = false) := by
  cases l with
  | nil => exact List.Pairwise.nil
  | cons x r => exact rising_all r x h
theorem str_ext {a b : Str} (h : a.cps.toList = b.cps.toList) : a = b := by
  cases a; cases b
  exact congrArg Str.mk (Array.toList_inj.mp h)
theorem sorted_same {xs ys : List Str} (p : xs.Perm ys) (hx : sortedS xs = true) (hy : sortedS ys = true) : xs = ys :=
  List.Perm.eq_of_pairwise (le := fun a b => ltCps b.cps.toList a.cps.toList = false) (fun a b _ _ h h' => str_ext (List.le_antisymm (ltf.mp h) (ltf.mp h'))) (sorted_all hx) (sorted_all hy) p
/-! ### lists of texts that are the same -/
theorem dp_allS {K : PySem.W.Frag} {H : Hp} : ∀ zs : List Str, DpAll K H (zs.map V.str) (zs.map PyData.str)
  | [] => .nil
  | _ :: r => .cons (.str _) (dp_allS r)
theorem canlay_strs : ∀ zs : List Str, zs.all PyData.strOk = true → PyData.canLayAll0 (zs.map PyData.str) = true
  | [], _ => rfl
  | z :: r, h => by
    rw [List.all_cons, Bool.and_eq_true] at h
    show PyData.canLayAll0 (PyData.str z :: r.map PyData.str) = true
    simp only [PyData.canLayAll0, PyData.canLay0, canlay_strs r h.2, h.1, Bool.and_self]
theorem depth_strs : ∀ zs : List Str, PyData.depthAll (zs.map PyData.str) ≤ 63
  | [] => by simp [PyData.depthAll]
  | _ :: r => by
    have h := depth_strs r
    simp [PyData.depthAll, PyData.depth] at h ⊢
    exact h
theorem shaped_strs (zs : List Str) (h : zs.all PyData.strOk = true) : SeqAt.shaped (.list (zs.map PyData.str)) = true := by
  unfold SeqAt.shaped
  rw [Bool.and_eq_true]
  refine ⟨?_, decide_eq_true ?_⟩
  · simp only [PyData.canLay0, canlay_strs zs h]
  · have h := depth_strs zs
    simp only [PyData.depth] at h ⊢
    omega
theorem dp_strs {K : PySem.W.Frag} {H : Hp} {a : Addr} {zs : List Str} (h : SqL K H a (zs.map V.str)) : Dp K H (.ref a) (.list (zs.map PyData.str)) := .lst h (dp_allS zs)

/-! ### the text by places -/
def top (i : Nat) : Stmt := PySem.Challenge.pw_wasmhost_k03_signatures_of_instructions.main.body.getD i (.Pass ⟨0, 0, 0, 0⟩)
abbrev s_is_zero : Stmt := top 34
abbrev s_leading_zeros : Stmt := top 36
abbrev s_trailing_zeros : Stmt := top 37
abbrev s_ones : Stmt := top 38
abbrev s_extend_8 : Stmt := top 39
abbrev s_extend_16 : Stmt := top 40
abbrev s_extend_32 : Stmt := top 41
abbrev s_unchanged : Stmt := top 42
abbrev s_signature_of : Stmt := top 45
abbrev s_calculate : Stmt := top 48
abbrev s__law_cell : Stmt := top 50
abbrev s__law_params : Stmt := top 51
abbrev s__law_names : Stmt := top 52
abbrev s__law_char : Stmt := top 53
abbrev s__law_edited : Stmt := top 54
abbrev s__law_results : Stmt := top 55
abbrev s__law_kinds : Stmt := top 56
abbrev s__law_right : Stmt := top 57
abbrev s__law_refused : Stmt := top 58
abbrev s_law : Stmt := top 59
theorem sc_is_zero : FnScope ["bits", "a"] ["bits", "a"] (defScope s_is_zero) := ⟨rfl, rfl, rfl, by decide +kernel, rfl, by decide +kernel, by decide +kernel⟩
theorem sc_leading_zeros : FnScope ["bits", "a"] ["bits", "a"] (defScope s_leading_zeros) := ⟨rfl, rfl, rfl, by decide +kernel, rfl, by decide +kernel, by decide +kernel⟩
theorem sc_trailing_zeros : FnScope ["bits", "a"] ["bits", "a"] (defScope s_trailing_zeros) := ⟨rfl, rfl, rfl, by decide +kernel, rfl, by decide +kernel, by decide +kernel⟩
theorem sc_ones : FnScope ["bits", "a", "word", "count"] ["bits", "a"] (defScope s_ones) := ⟨rfl, rfl, rfl, by decide +kernel, rfl, by decide +kernel, by decide +kernel⟩
theorem sc_extend_8 : FnScope ["bits", "a"] ["bits", "a"] (defScope s_extend_8) := ⟨rfl, rfl, rfl, by decide +kernel, rfl, by decide +kernel, by decide +kernel⟩
theorem sc_extend_16 : FnScope ["bits", "a"] ["bits", "a"] (defScope s_extend_16) := ⟨rfl, rfl, rfl, by decide +kernel, rfl, by decide +kernel, by decide +kernel⟩
theorem sc_extend_32 : FnScope ["bits", "a"] ["bits", "a"] (defScope s_extend_32) := ⟨rfl, rfl, rfl, by decide +kernel, rfl, by decide +kernel, by decide +kernel⟩
theorem sc_unchanged : FnScope ["bits", "a"] ["bits", "a"] (defScope s_unchanged) := ⟨rfl, rfl, rfl, by decide +kernel, rfl, by decide +kernel, by decide +kernel⟩
theorem sc_signature_of : FnScope ["name", "kind", "word", "taken", "results"] ["name"] (defScope s_signature_of) := ⟨rfl, rfl, rfl, by decide +kernel, rfl, by decide +kernel, by decide +kernel⟩
theorem sc_calculate : FnScope ["name", "operands", "params", "results", "word", "bits", "forms", "action"] ["name", "operands"] (defScope s_calculate) := ⟨rfl, rfl, rfl, by decide +kernel, rfl, by decide +kernel, by decide +kernel⟩
theorem sc__law_cell : FnScope ["script", "k"] ["script", "k"] (defScope s__law_cell) := ⟨rfl, rfl, rfl, by decide +kernel, rfl, by decide +kernel, by decide +kernel⟩
theorem sc__law_params : FnScope ["name", "two", "one", "kind", "word"] ["name"] (defScope s__law_params) := ⟨rfl, rfl, rfl, by decide +kernel, rfl, by decide +kernel, by decide +kernel⟩
theorem sc__law_names : FnScope ["words", "names", "word"] [] (defScope s__law_names) := ⟨rfl, rfl, rfl, by decide +kernel, rfl, by decide +kernel, by decide +kernel⟩
theorem sc__law_char : FnScope ["cell", "chars"] ["cell"] (defScope s__law_char) := ⟨rfl, rfl, rfl, by decide +kernel, rfl, by decide +kernel, by decide +kernel⟩
theorem sc__law_edited : FnScope ["name", "cell", "at", "char"] ["name", "cell"] (defScope s__law_edited) := ⟨rfl, rfl, rfl, by decide +kernel, rfl, by decide +kernel, by decide +kernel⟩
theorem sc__law_results : FnScope ["name", "word", "compared"] ["name"] (defScope s__law_results) := ⟨rfl, rfl, rfl, by decide +kernel, rfl, by decide +kernel, by decide +kernel⟩
theorem sc__law_kinds : FnScope ["actual", "due", "k"] ["actual", "due"] (defScope s__law_kinds) := ⟨rfl, rfl, rfl, by decide +kernel, rfl, by decide +kernel, by decide +kernel⟩
theorem sc__law_right : FnScope ["name", "actual"] ["name"] (defScope s__law_right) := ⟨rfl, rfl, rfl, by decide +kernel, rfl, by decide +kernel, by decide +kernel⟩
theorem sc__law_refused : FnScope ["name", "operands", "computed", "e"] ["name", "operands", "computed"] (defScope s__law_refused) := ⟨rfl, rfl, rfl, by decide +kernel, rfl, by decide +kernel, by decide +kernel⟩
theorem sc_law : FnScope ["script", "names", "name", "strange", "k", "cell"] ["script"] (defScope s_law) := ⟨rfl, rfl, rfl, by decide +kernel, rfl, by decide +kernel, by decide +kernel⟩
/-- where the own classes stand -/
structure Cs where
  C_HostError : Addr
  C_Trap : Addr
  I_Trap : Addr
  D_Trap : FuncData
  C_UnknownInstruction : Addr
  I_UnknownInstruction : Addr
  D_UnknownInstruction : FuncData
  C_BadValues : Addr
  t_INSTRUCTIONS : Addr
  t_CONVERTED_KINDS : Addr
  t_COMPARISONS : Addr
  t_ONE_OPERAND : Addr
  f_is_zero : Addr
  f_leading_zeros : Addr
  f_trailing_zeros : Addr
  f_ones : Addr
  f_extend_8 : Addr
  f_extend_16 : Addr
  f_extend_32 : Addr
  f_unchanged : Addr
def v_INSTRUCTIONS : List Str := ("i32.add" : Str) :: ("i32.sub" : Str) :: ("i32.mul" : Str) :: ("i32.div_s" : Str) :: ("i32.div_u" : Str) :: ("i32.rem_s" : Str) :: ("i32.rem_u" : Str) :: ("i64.add" : Str) :: ("i64.sub" : Str) :: ("i64.mul" : Str) :: ("i64.div_s" : Str) :: ("i64.div_u" : Str) :: ("i64.rem_s" : Str) :: ("i64.rem_u" : Str) :: ("i32.and" : Str) :: ("i32.or" : Str) :: ("i32.xor" : Str) :: ("i64.and" : Str) :: ("i64.or" : Str) :: ("i64.xor" : Str) :: ("i32.shl" : Str) :: ("i32.shr_s" : Str) :: ("i32.shr_u" : Str) :: ("i32.rotl" : Str) :: ("i32.rotr" : Str) :: ("i64.shl" : Str) :: ("i64.shr_s" : Str) :: ("i64.shr_u" : Str) :: ("i64.rotl" : Str) :: ("i64.rotr" : Str) :: ("i32.eqz" : Str) :: ("i32.eq" : Str) :: ("i32.ne" : Str) :: ("i32.lt_s" : Str) :: ("i32.lt_u" : Str) :: ("i32.gt_s" : Str) :: ("i32.gt_u" : Str) :: ("i32.le_s" : Str) :: ("i32.le_u" : Str) :: ("i32.ge_s" : Str) :: ("i32.ge_u" : Str) :: ("i64.eqz" : Str) :: ("i64.eq" : Str) :: ("i64.ne" : Str) :: ("i64.lt_s" : Str) :: ("i64.lt_u" : Str) :: ("i64.gt_s" : Str) :: ("i64.gt_u" : Str) :: ("i64.le_s" : Str) :: ("i64.le_u" : Str) :: ("i64.ge_s" : Str) :: ("i64.ge_u" : Str) :: ("i32.clz" : Str) :: ("i32.ctz" : Str) :: ("i32.popcnt" : Str) :: ("i32.extend8_s" : Str) :: ("i32.extend16_s" : Str) :: ("i64.clz" : Str) :: ("i64.ctz" : Str) :: ("i64.popcnt" : Str) :: ("i64.extend8_s" : Str) :: ("i64.extend16_s" : Str) :: ("i64.extend32_s" : Str) :: ("i32.wrap_i64" : Str) :: ("i64.extend_i32_s" : Str) :: ("i64.extend_i32_u" : Str) :: []
def v_CONVERTED_KINDS (cs : Cs) : List (Str × V) := [("i32.wrap_i64", .str "i64"), ("i64.extend_i32_s", .str "i32"), ("i64.extend_i32_u", .str "i32")]
def v_COMPARISONS : List Str := ("eqz" : Str) :: ("eq" : Str) :: ("ne" : Str) :: ("lt_s" : Str) :: ("lt_u" : Str) :: ("gt_s" : Str) :: ("gt_u" : Str) :: ("le_s" : Str) :: ("le_u" : Str) :: ("ge_s" : Str) :: ("ge_u" : Str) :: []
def v_ONE_OPERAND (cs : Cs) : List (Str × V) := [("eqz", .ref cs.f_is_zero), ("clz", .ref cs.f_leading_zeros), ("ctz", .ref cs.f_trailing_zeros), ("popcnt", .ref cs.f_ones), ("extend8_s", .ref cs.f_extend_8), ("extend16_s", .ref cs.f_extend_16), ("extend32_s", .ref cs.f_extend_32), ("wrap_i64", .ref cs.f_unchanged), ("extend_i32_s", .ref cs.f_unchanged), ("extend_i32_u", .ref cs.f_unchanged)]
abbrev i_Trap : Stmt := inClass (top 2) 0
theorem sci_Trap : FnScope ["self", "reason"] ["self", "reason"] (defScope i_Trap) := ⟨rfl, rfl, rfl, by decide +kernel, rfl, by decide +kernel, by decide +kernel⟩
abbrev i_UnknownInstruction : Stmt := inClass (top 3) 0
theorem sci_UnknownInstruction : FnScope ["self", "name"] ["self", "name"] (defScope i_UnknownInstruction) := ⟨rfl, rfl, rfl, by decide +kernel, rfl, by decide +kernel, by decide +kernel⟩
/-- what the top leaves: built-in names that nothing binds, own classes -/
structure Tp (w : World) (K : PySem.W.Frag) (mg : Str → Option Value) (cs : Cs) : Prop where
  m_ValueError : mg "ValueError" = none
  m_int : mg "int" = none
  m_isinstance : mg "isinstance" = none
  m_len : mg "len" = none
  m_list : mg "list" = none
  m_min : mg "min" = none
  m_range : mg "range" = none
  m_sorted : mg "sorted" = none
  m_str : mg "str" = none
  m_tuple : mg "tuple" = none
  g_HostError : mg "HostError" = some (.ref cs.C_HostError)
  g_Trap : mg "Trap" = some (.ref cs.C_Trap)
  e_Trap : ExK K mg "Trap" cs.C_Trap
  iC_Trap : PySem.W.findIn K (.ref cs.C_Trap) "__init__" = some (some (.ref cs.I_Trap))
  tI_Trap : PySem.W.typeIn K (.ref cs.I_Trap) = some (.type "function")
  F_Trap : L2.Fun K "__init__" "Trap.__init__" i_Trap cs.I_Trap cs.D_Trap
  b_Trap : Binds K cs.D_Trap ["self", "reason"] []
  no_Trap_reason : PySem.W.findIn K (.ref cs.C_Trap) "reason" = some none
  kit_Trap_HostError : PySem.W.kitOne K (.ref cs.C_Trap) (.ref cs.C_HostError) = some true
  exm_Trap_HostError : PySem.W.exmOne K (.ref cs.C_Trap) (.ref cs.C_HostError) = some true
  kit_Trap_Trap : PySem.W.kitOne K (.ref cs.C_Trap) (.ref cs.C_Trap) = some true
  exm_Trap_Trap : PySem.W.exmOne K (.ref cs.C_Trap) (.ref cs.C_Trap) = some true
  kit_Trap_UnknownInstruction : PySem.W.kitOne K (.ref cs.C_Trap) (.ref cs.C_UnknownInstruction) = some false
  exm_Trap_UnknownInstruction : PySem.W.exmOne K (.ref cs.C_Trap) (.ref cs.C_UnknownInstruction) = some false
  kit_Trap_BadValues : PySem.W.kitOne K (.ref cs.C_Trap) (.ref cs.C_BadValues) = some false
  exm_Trap_BadValues : PySem.W.exmOne K (.ref cs.C_Trap) (.ref cs.C_BadValues) = some false
  kit_Trap_VE : PySem.W.kitOne K (.ref cs.C_Trap) (.type "ValueError") = some true
  g_UnknownInstruction : mg "UnknownInstruction" = some (.ref cs.C_UnknownInstruction)
  e_UnknownInstruction : ExK K mg "UnknownInstruction" cs.C_UnknownInstruction
  iC_UnknownInstruction : PySem.W.findIn K (.ref cs.C_UnknownInstruction) "__init__" = some (some (.ref cs.I_UnknownInstruction))
  tI_UnknownInstruction : PySem.W.typeIn K (.ref cs.I_UnknownInstruction) = some (.type "function")
  F_UnknownInstruction : L2.Fun K "__init__" "UnknownInstruction.__init__" i_UnknownInstruction cs.I_UnknownInstruction cs.D_UnknownInstruction
  b_UnknownInstruction : Binds K cs.D_UnknownInstruction ["self", "name"] []
  no_UnknownInstruction_name : PySem.W.findIn K (.ref cs.C_UnknownInstruction) "name" = some none
  kit_UnknownInstruction_HostError : PySem.W.kitOne K (.ref cs.C_UnknownInstruction) (.ref cs.C_HostError) = some true
  exm_UnknownInstruction_HostError : PySem.W.exmOne K (.ref cs.C_UnknownInstruction) (.ref cs.C_HostError) = some true
  kit_UnknownInstruction_Trap : PySem.W.kitOne K (.ref cs.C_UnknownInstruction) (.ref cs.C_Trap) = some false
  exm_UnknownInstruction_Trap : PySem.W.exmOne K (.ref cs.C_UnknownInstruction) (.ref cs.C_Trap) = some false
  kit_UnknownInstruction_UnknownInstruction : PySem.W.kitOne K (.ref cs.C_UnknownInstruction) (.ref cs.C_UnknownInstruction) = some true
  exm_UnknownInstruction_UnknownInstruction : PySem.W.exmOne K (.ref cs.C_UnknownInstruction) (.ref cs.C_UnknownInstruction) = some true
  kit_UnknownInstruction_BadValues : PySem.W.kitOne K (.ref cs.C_UnknownInstruction) (.ref cs.C_BadValues) = some false
  exm_UnknownInstruction_BadValues : PySem.W.exmOne K (.ref cs.C_UnknownInstruction) (.ref cs.C_BadValues) = some false
  kit_UnknownInstruction_VE : PySem.W.kitOne K (.ref cs.C_UnknownInstruction) (.type "ValueError") = some true
  g_BadValues : mg "BadValues" = some (.ref cs.C_BadValues)
  x0_BadValues : PySem.W.excIn K cs.C_BadValues [.type "ValueError", .type "Exception", .type "BaseException", .type "object"] "ValueError.__new__" = true
  k0_BadValues : PySem.W.keepIn K (.ref cs.C_BadValues) = true
  b0_BadValues : PySem.W.subIn K (.ref cs.C_BadValues) (.type "BaseException") = some true
  t0_BadValues : PySem.W.typeIn K (.ref cs.C_BadValues) = some (.type "type")
  E0_BadValues : ExcC K cs.C_BadValues
  kit_BadValues_HostError : PySem.W.kitOne K (.ref cs.C_BadValues) (.ref cs.C_HostError) = some true
  exm_BadValues_HostError : PySem.W.exmOne K (.ref cs.C_BadValues) (.ref cs.C_HostError) = some true
  kit_BadValues_Trap : PySem.W.kitOne K (.ref cs.C_BadValues) (.ref cs.C_Trap) = some false
  exm_BadValues_Trap : PySem.W.exmOne K (.ref cs.C_BadValues) (.ref cs.C_Trap) = some false
  kit_BadValues_UnknownInstruction : PySem.W.kitOne K (.ref cs.C_BadValues) (.ref cs.C_UnknownInstruction) = some false
  exm_BadValues_UnknownInstruction : PySem.W.exmOne K (.ref cs.C_BadValues) (.ref cs.C_UnknownInstruction) = some false
  kit_BadValues_BadValues : PySem.W.kitOne K (.ref cs.C_BadValues) (.ref cs.C_BadValues) = some true
  exm_BadValues_BadValues : PySem.W.exmOne K (.ref cs.C_BadValues) (.ref cs.C_BadValues) = some true
  kit_BadValues_VE : PySem.W.kitOne K (.ref cs.C_BadValues) (.type "ValueError") = some true
  g_INSTRUCTIONS : mg "INSTRUCTIONS" = some (.ref cs.t_INSTRUCTIONS)
  d_INSTRUCTIONS : TupS K cs.t_INSTRUCTIONS v_INSTRUCTIONS
  g_CONVERTED_KINDS : mg "CONVERTED_KINDS" = some (.ref cs.t_CONVERTED_KINDS)
  d_CONVERTED_KINDS : DicV K w cs.t_CONVERTED_KINDS (v_CONVERTED_KINDS cs)
  g_COMPARISONS : mg "COMPARISONS" = some (.ref cs.t_COMPARISONS)
  d_COMPARISONS : TupS K cs.t_COMPARISONS v_COMPARISONS
  g_ONE_OPERAND : mg "ONE_OPERAND" = some (.ref cs.t_ONE_OPERAND)
  d_ONE_OPERAND : DicV K w cs.t_ONE_OPERAND (v_ONE_OPERAND cs)
  h_is_zero : mg "is_zero" = some (.ref cs.f_is_zero)
  h_leading_zeros : mg "leading_zeros" = some (.ref cs.f_leading_zeros)
  h_trailing_zeros : mg "trailing_zeros" = some (.ref cs.f_trailing_zeros)
  h_ones : mg "ones" = some (.ref cs.f_ones)
  h_extend_8 : mg "extend_8" = some (.ref cs.f_extend_8)
  h_extend_16 : mg "extend_16" = some (.ref cs.f_extend_16)
  h_extend_32 : mg "extend_32" = some (.ref cs.f_extend_32)
  h_unchanged : mg "unchanged" = some (.ref cs.f_unchanged)
theorem in_Trap {P : Program} {w : World} {K : PySem.W.Frag} {mg : Str → Option Value} {base : Heap} {cs : Cs} (T : Tp w K mg cs) : FnOk P w K mg base CX0 1 cs.I_Trap cs.D_Trap ["self", "reason"] (spI1 K cs.C_Trap "reason") :=
  init1 T.F_Trap sci_Trap T.e_Trap.T T.no_Trap_reason rfl (.inl rfl) (.inl rfl) (by decide) (by decide)
theorem in_UnknownInstruction {P : Program} {w : World} {K : PySem.W.Frag} {mg : Str → Option Value} {base : Heap} {cs : Cs} (T : Tp w K mg cs) : FnOk P w K mg base CX0 1 cs.I_UnknownInstruction cs.D_UnknownInstruction ["self", "name"] (spI1 K cs.C_UnknownInstruction "name") :=
  init1 T.F_UnknownInstruction sci_UnknownInstruction T.e_UnknownInstruction.T T.no_UnknownInstruction_name rfl (.inl rfl) (.inl rfl) (by decide) (by decide)
/-! ### lists of ints that are the same -/
theorem dp_all {K : PySem.W.Frag} {H : Hp} : ∀ ns : List Int, DpAll K H (ns.map V.int) (ns.map PyData.int)
  | [] => .nil
  | _ :: r => .cons (.int _) (dp_all r)
theorem canlay_ints : ∀ ns : List Int, PyData.canLayAll0 (ns.map PyData.int) = true
  | [] => rfl
  | _ :: r => by
    show PyData.canLayAll0 (PyData.int _ :: r.map PyData.int) = true
    simp only [PyData.canLayAll0, PyData.canLay0, canlay_ints r, Bool.and_self]
theorem depth_ints : ∀ ns : List Int, PyData.depthAll (ns.map PyData.int) ≤ 63
  | [] => by simp [PyData.depthAll]
  | _ :: r => by
    have h := depth_ints r
    simp [PyData.depthAll, PyData.depth] at h ⊢
    exact h
theorem shaped_ints (ns : List Int) : SeqAt.shaped (.list (ns.map PyData.int)) = true := by
  unfold SeqAt.shaped
  rw [Bool.and_eq_true]
  refine ⟨?_, decide_eq_true ?_⟩
  · simp only [PyData.canLay0, canlay_ints]
  · have h := depth_ints ns
    simp only [PyData.depth] at h ⊢
    omega
theorem eqD_same {K : PySem.W.Frag} {H : Hp} {x y : V} {d : PyData} {Q : VK} (h1 : Dp K H x d) (h2 : Dp K H y d) (s : SeqAt.shaped d = true) (q : Q (.bl true) H) : rEqD K x y H Q :=
  ⟨d, d, h1, h2, s, s, by rw [SeqAt.eqv_refl d (SeqAt.canLay_of_shaped s)]; exact q⟩
theorem neD_same {K : PySem.W.Frag} {H : Hp} {x y : V} {d : PyData} {Q : VK} (h1 : Dp K H x d) (h2 : Dp K H y d) (s : SeqAt.shaped d = true) (q : Q (.bl false) H) : rNeD K x y H Q :=
  ⟨d, d, h1, h2, s, s, by rw [SeqAt.eqv_refl d (SeqAt.canLay_of_shaped s)]; exact q⟩
theorem dp_ints {K : PySem.W.Frag} {H : Hp} {a : Addr} {ns : List Int} (h : SqL K H a (ns.map V.int)) : Dp K H (.ref a) (.list (ns.map PyData.int)) := .lst h (dp_all ns)
theorem eqv_ints (ns : List Int) : PyData.eqv (.list (ns.map PyData.int)) (.list (ns.map PyData.int)) = true := SeqAt.eqv_refl _ (SeqAt.canLay_of_shaped (shaped_ints ns))

/-! ### ifs and tests whose answer is known -/
theorem ifNe {x y : Int} {A B : Prop} (e : x = y) (h : B) : if (!decide (V.int x = V.int y)) = true then A else B := by
  subst e
  rw [decide_eq_true rfl]
  exact h
theorem ifNeN {x y : Int} {A B : Prop} (e : ¬ x = y) (h : A) : if (!decide (V.int x = V.int y)) = true then A else B := by
  rw [decide_eq_false (fun z => e (V.int.inj z))]
  exact h
theorem eqT {x y : Int} (e : x = y) : decide (V.int x = V.int y) = true := decide_eq_true (congrArg V.int e)
theorem qT {x y : Int} {Q : VK} {H : Hp} (e : x = y) (h : Q (.bl true) H) : Q (.bl (decide (V.int x = V.int y))) H := by rw [eqT e]; exact h
theorem orV {t u : TE} {σ : L2.St} {H : Hp} {Q : VK} (b1 b2 : Bool) (h1 : ∀ Q, (∀ H', Same H H' → Q (.bl b1) H') → t σ H Q) (h2 : ∀ H' Q, Q (.bl b2) H' → u σ H' Q) (q : ∀ H', Same H H' → Q (.bl (b1 || b2)) H') : tOrV t u σ H Q := by
  refine h1 _ fun H' s => ⟨b1, rfl, ?_⟩
  cases b1 with
  | true => rw [if_pos rfl]; exact q _ s
  | false => rw [if_neg (by decide)]; exact h2 _ _ (q _ s)
theorem andV {t u : TE} {σ : L2.St} {H : Hp} {Q : VK} (b1 b2 : Bool) (h1 : ∀ Q, Q (.bl b1) H → t σ H Q) (h2 : ∀ Q, Q (.bl b2) H → u σ H Q) (q : Q (.bl (b1 && b2)) H) : tAndV t u σ H Q := by
  refine h1 _ ⟨b1, rfl, ?_⟩
  cases b1 with
  | true => rw [if_pos rfl]; exact h2 _ q
  | false => rw [if_neg (by decide)]; exact q
theorem orF {t u : TT} {σ : L2.St} {H : Hp} {Q : Bool → Hp → Prop} (h1 : ∀ Q, (∀ H', Same H H' → Q false H') → t σ H Q) (h2 : ∀ H', Same H H' → ∀ Q, (∀ H'', Same H' H'' → Q false H'') → u σ H' Q) (q : ∀ H', Same H H' → Q false H') : tOr t u σ H Q := by
  refine h1 _ fun H' s => ?_
  rw [if_neg (by decide)]
  exact h2 _ s _ fun H'' s' => q _ (s.trans s')
theorem neF {x y : Int} {Q : Bool → Hp → Prop} {H : Hp} (e : x = y) (h : Q false H) : Q (!decide (V.int x = V.int y)) H := by rw [eqT e]; exact h
theorem ifEq {x y : Int} {A B : Prop} (e : x = y) (h : A) : if decide (V.int x = V.int y) = true then A else B := by rw [eqT e]; exact h
theorem ifEqN {x y : Int} {A B : Prop} (e : ¬ x = y) (h : B) : if decide (V.int x = V.int y) = true then A else B := by
  rw [decide_eq_false (fun z => e (V.int.inj z))]; exact h
theorem ifS {x y : Str} {A B : Prop} (e : x = y) (h : A) : if decide (V.str x = V.str y) = true then A else B := by rw [if_pos (decide_eq_true (congrArg V.str e))]; exact h
theorem ifSN {x y : Str} {A B : Prop} (e : ¬ x = y) (h : B) : if decide (V.str x = V.str y) = true then A else B := by
  rw [if_neg (fun z => e (V.str.inj (of_decide_eq_true z)))]; exact h
theorem ifNeS {x y : Str} {A B : Prop} (e : x = y) (h : B) : if (!decide (V.str x = V.str y)) = true then A else B := by
  subst e
  rw [decide_eq_true rfl]
  exact h
theorem qTS {x y : Str} {Q : VK} {H : Hp} (e : x = y) (h : Q (.bl true) H) : Q (.bl (decide (V.str x = V.str y))) H := by rw [decide_eq_true (congrArg V.str e)]; exact h
theorem call_isiS {X : Cx} {a : Addr} {ps : List (Addr × Obj)} : CallR (X.suite a ps) (.builtin "isinstance") (rIsi X.K) := call_isi
theorem for_tupE {K : PySem.W.Frag} {a : Addr} {xs : List V} {g : TG} {tb : TS} {nx : L2.St → Hp → Prop} {rt : VK} {σ : L2.St} {H : Hp} (Pv : Nat → L2.St → Hp → Prop) (h0 : Pv 0 σ H) (hl : ∀ i σ H, i ≤ xs.length → Pv i σ H → SqT K H a xs)
    (hs : ∀ i x σ H, xs[i]? = some x → Pv i σ H → g x σ H fun σ2 H2 => tb { nx := Pv (i + 1), rt := rt, bk := nx, ct := Pv (i + 1) } σ2 H2) (hd : ∀ σ H, Pv xs.length σ H → nx σ H) :
    ∃ W : Nat → Nat → L2.St → Hp → Prop, (∃ m, W 0 m σ H) ∧ ∀ i m σ H, W i m σ H → ((Itt K a).stop i H ∧ nx σ H) ∨ ((Itt K a).go i H ∧ ∃ N : L2.St → Hp → Prop, (∀ σ' H', N σ' H' → ∃ m', m' < m ∧ W (i + 1) m' σ' H') ∧
      ∀ x H', (Itt K a).yld i H x H' → g x σ H' fun σ2 H2 => tb { nx := N, rt := rt, bk := nx, ct := N } σ2 H2) := for_tup (D := { nx := nx, rt := rt }) Pv h0 hl hs hd
theorem isi_bool {K : PySem.W.Frag} {H : Hp} {b : Bool} {Q : VK} (q : Q (.bl true) H) : rIsi K [.bl b, .ty "bool"] H Q := ⟨.bl b, .ty "bool", _, _, true, rfl, .ty _, .base (.bl _), kit_ty (by decide +kernel), q⟩
theorem ne_of_nd {x y : Int} (h : (!decide (V.int x = V.int y)) = true) : ¬ x = y := fun e => by
  rw [decide_eq_true (congrArg V.int e)] at h; cases h
theorem eq_of_nd {x y : Int} (h : ¬ (!decide (V.int x = V.int y)) = true) : x = y := by
  by_cases e : x = y
  · exact e
  · exact absurd (by rw [decide_eq_false (fun z => e (V.int.inj z))]; rfl) h
theorem eq_of_d {x y : Int} (h : decide (V.int x = V.int y) = true) : x = y := V.int.inj (of_decide_eq_true h)
theorem ne_of_d {x y : Int} (h : ¬ decide (V.int x = V.int y) = true) : ¬ x = y := fun e => h (decide_eq_true (congrArg V.int e))
theorem sign_of (d : Nat) : -1 ≤ ([1, -1] : List Int).getD d 0 ∧ ([1, -1] : List Int).getD d 0 ≤ 1 := by
  match d with
  | 0 => decide
  | 1 => decide
  | _ + 2 => exact (by decide : (-1 : Int) ≤ 0 ∧ (0 : Int) ≤ 1)
section
variable {X : Cx} {s : Shared} {H : Hp} {sc : Scope} {en : Env} {fp : List Addr}
theorem ix_listB : IxR (X.blk s H sc en fp) (L2.rIxL X.K) := ix_list
theorem ix_tupB : IxR (X.blk s H sc en fp) (L2.rIxT X.K) := ix_tup
theorem call_isiB : CallR (X.blk s H sc en fp) (.builtin "isinstance") (rIsi X.K) := call_isi
end
theorem andIf {t : TE} {σ : L2.St} {H : Hp} {Q : VK} {b1 b2 : Bool} (h : ∀ Q', Q' (.bl b2) H → t σ H Q') (q : Q (.bl (b1 && b2)) H) : if b1 = true then t σ H Q else Q (.bl false) H := by
  cases b1 with
  | true => exact h _ q
  | false => exact q
theorem op_eqDS {X : Cx} {a : Addr} {ps : List (Addr × Obj)} (hu : X.A.units + 64 < cLine) : OpR (X.suite a ps) (compareOp .Eq) (rEqD X.K) := op_eqD (X := X.suite a ps) hu
theorem isi_of {K : PySem.W.Frag} {H : Hp} {x : V} {n : String} {t : Value} {b : Bool} {Q : VK} (h : TyX K H x t) (k : PySem.W.kitOne K t (.type n) = some b) (q : Q (.bl b) H) : rIsi K [x, .ty n] H Q := ⟨x, .ty n, t, _, b, rfl, .ty _, h, k, q⟩

/-! ### lists of texts, heaps that grow -/
theorem newE {H H' : Hp} {p : Addr} {xs : List V} {zs : List Str} (h : H p = none) (e : upd H p (.lst xs) = H') (hx : xs = zs.map V.str) : Same H H' ∧ H' p = some (.lst (zs.map V.str)) := by
  subst e hx
  exact ⟨Same.new h, upd_same⟩
theorem at_strs {zs : List Str} {k : Nat} (h : k < zs.length) : ∃ z ∈ zs, atI (zs.map V.str) (k : Int) = some (.str z) :=
  ⟨zs[k], List.getElem_mem h, atI_nat (by rw [List.getElem?_map, List.getElem?_eq_getElem h]; rfl)⟩
theorem none_of {H H' : Hp} {p : Addr} (s : Same H H') (h : H' p = none) : H p = none := by
  cases e : H p with
  | none => rfl
  | some o => rw [s _ _ e] at h; cases h
theorem catE {H : Hp} {l b : Addr} {zs ys : List Str} {Q : VK} (hl : H l = some (.lst (zs.map V.str))) (hb : H b = some (.lst (ys.map V.str))) (hn : zs.length + ys.length ≤ 1000) (q : ∀ p H', Same H H' → H p = none → H' p = some (.lst ((zs ++ ys).map V.str)) → Q (.ref p) H') : rCat (.ref l) (.ref b) H Q :=
  ⟨l, b, _, _, rfl, rfl, hl, hb, by rw [List.length_map, List.length_map]; exact small64 (by omega), fun p hp => q p _ (Same.new hp) hp (by rw [upd_same, List.map_append])⟩
def LstS (H : Hp) (Q : VK) (zs : List Str) : Prop := ∀ p H', Same H H' → H p = none → H' p = some (.lst (zs.map V.str)) → Q (.ref p) H'
theorem lc_mapS {K : PySem.W.Frag} {a : Addr} {zs : List Str} {j : Nat} {te : TE} {σ : L2.St} {H1 : Hp} {D : Addr} {Qd : Hp → Prop} (f : Str → Str) (hD : H1 D = none) (hS : SqL K H1 a (zs.map V.str)) (hn : zs.length ≤ 100000)
    (hs : ∀ z H Q, z ∈ zs → Same H1 H → (∀ H', Same H H' → Q (.str (f z)) H') → te ((σ.set j none).set j (some (.str z))) H Q) (hd : ∀ H, Same H1 H → H D = some (.lst ((zs.map f).map V.str)) → Qd H) :
    ∃ W : Nat → Nat → Hp → Prop, (∃ m, W 0 m (upd H1 D (.lst []))) ∧ ∀ i m H, W i m H →
      ((Itl K a).stop i H ∧ Qd H) ∨ ((Itl K a).go i H ∧ ∃ Nx : Hp → Prop, (∀ H', Nx H' → ∃ m', m' < m ∧ W (i + 1) m' H') ∧ ∀ x H', (Itl K a).yld i H x H' → gName j x (wipe σ [j]) H' fun σ2 H2 => wipe σ2 [j] = wipe σ [j] ∧ tYes σ2 H2 fun b H3 =>
        if b = true then te σ2 H3 fun y H4 => ∃ acc, H4 D = some (.lst acc) ∧ acc.length < sizeLine ∧ Nx (upd H4 D (.lst (acc ++ [y]))) else Nx H3) := by
  refine lc_map (f := fun v => match v with | .str z => .str (f z) | v => v) hD hS (by rw [List.length_map]; exact hn) (fun x H2 Q2 hx s2 q2 => ?_) (fun H2 s2 hD2 => ?_)
  · obtain ⟨z, hz, rfl⟩ := List.mem_map.mp hx
    exact hs z H2 Q2 hz s2 q2
  · refine hd H2 s2 ?_
    rw [hD2, List.map_map, List.map_map]; rfl
theorem flat_strs : ∀ zs : List Str, (zs.map V.str).all flatV = true
  | [] => rfl
  | _ :: r => flat_strs r
theorem inV_mem (z : Str) (zs : List Str) : inV (.str z) (zs.map V.str) = true ↔ z ∈ zs := by
  unfold inV
  rw [List.any_map, List.any_eq_true]
  constructor
  · rintro ⟨y, hy, e⟩
    have e' : (y == z) = true := e
    rw [← eq_of_beq e']; exact hy
  · intro h
    exact ⟨z, h, (beq_self_eq_true z : (z == z) = true)⟩

/-! ### signatures; an unknown name is refused -/
def kindOf (z : Str) : Str := cutS z none (some 3)
def wordOf (z : Str) : Str := cutS z (some 4) none
def takenS (z : Str) : Str := if z = "i32.wrap_i64" then "i64" else if z = "i64.extend_i32_s" then "i32" else if z = "i64.extend_i32_u" then "i32" else kindOf z
def oneW : List Str := ["eqz", "clz", "ctz", "popcnt", "extend8_s", "extend16_s", "extend32_s", "wrap_i64", "extend_i32_s", "extend_i32_u"]
def isOne (z : Str) : Bool := oneW.any fun k => decide (k = wordOf z)
def resS (z : Str) : Str := if inV (.str (wordOf z)) (v_COMPARISONS.map V.str) = true then "i32" else kindOf z
def kindsS (z : Str) : List Str := if isOne z = true then [takenS z] else [takenS z, takenS z]
def Known (z : Str) : Bool := inV (.str z) (v_INSTRUCTIONS.map V.str)
def Unk (cs : Cs) (H : Hp) (E : XK) (z : Str) : Prop := ∀ d Hf, Same H Hf → Hf d = some (.xd [("name", .str z)]) → E (.ref cs.C_UnknownInstruction) (some d) Hf
theorem Unk.of {cs : Cs} {H H1 : Hp} {E : XK} {z : Str} (h : Unk cs H E z) (s : Same H H1) : Unk cs H1 E z := fun d Hf s2 e => h d Hf (s.trans s2) e
theorem valS_some (z : Str) : ∀ kvs : List (Str × V), (valS kvs z).isSome = (kvs.map (·.1)).any fun k => decide (k = z)
  | [] => rfl
  | (x, v) :: r => by
    have ih := valS_some z r
    unfold valS at ih ⊢
    rw [List.find?_cons, List.map_cons, List.any_cons]
    by_cases c : x = z
    · rw [decide_eq_true c]; rfl
    · rw [decide_eq_false c]; exact ih
theorem one_isS (cs : Cs) (z : Str) : (valS (v_ONE_OPERAND cs) (wordOf z)).isSome = isOne z := valS_some _ _
theorem conv_is (cs : Cs) (z : Str) : (valS (v_CONVERTED_KINDS cs) z).getD (.str (kindOf z)) = .str (takenS z) := by
  unfold takenS valS v_CONVERTED_KINDS
  by_cases c1 : z = "i32.wrap_i64"
  · rw [if_pos c1, List.find?_cons, decide_eq_true c1.symm]; rfl
  rw [if_neg c1, List.find?_cons, decide_eq_false (fun e => c1 e.symm)]
  by_cases c2 : z = "i64.extend_i32_s"
  · simp only [List.find?_cons, decide_eq_true c2.symm]; rw [if_pos c2]; rfl
  simp only [List.find?_cons, decide_eq_false (fun e => c2 (Eq.symm e) : ¬ ("i64.extend_i32_s" : Str) = z)]
  rw [if_neg c2]
  by_cases c3 : z = "i64.extend_i32_u"
  · simp only [decide_eq_true c3.symm]; rw [if_pos c3]; rfl
  · simp only [decide_eq_false (fun e => c3 (Eq.symm e) : ¬ ("i64.extend_i32_u" : Str) = z)]
    rw [if_neg c3]; rfl
def sp_signature_of (K : PySem.W.Frag) (cs : Cs) : Sp := fun vs H Q E => ∃ z : Str, vs = [.str z] ∧ z.length ≤ sizeLine ∧
  (Known z = true → ∀ t p r H', Same H H' → H' t = some (.tup [.ref p, .ref r]) → H' p = some (.tup ((kindsS z).map V.str)) → H' r = some (.tup [.str (resS z)]) → Q (.ref t) H') ∧ (Known z = false → Unk cs H E z)
section
variable {P : Program} {w : World} {K : PySem.W.Frag} {mg : Str → Option Value} {base : Heap} {cs : Cs}
theorem c_signature_of (D : Def K mg "signature_of" s_signature_of ["name"]) (T : Tp w K mg cs)  : Cal P w K mg base (L2.CX P w) 3 "signature_of" (sp_signature_of K cs) := by
  refine D.okX sc_signature_of (fun vs H Q E h => ?_) (fun f cdv A outer s H vs Q E hr h => ?_)
  · obtain ⟨z, rfl, _⟩ := h; rfl
  · obtain ⟨z, rfl, hl, q, qe⟩ := h
    refine ⟨_, (pss_cons (ps_if (pt_cmpR op_notIn_seq (pv 0) (pe_glob (v := .ref cs.t_INSTRUCTIONS) (by rfl) T.g_INSTRUCTIONS rfl) (by first | rfl | exact nomark _)) (pss_one (ps_raise rfl (takes_of rfl rfl rfl rfl) (pmk_oex T.e_UnknownInstruction.T T.iC_UnknownInstruction T.tI_UnknownInstruction (in_UnknownInstruction T) (hr.mono (by decide)) T.b_UnknownInstruction .nil pass0 (by rfl) T.e_UnknownInstruction.g (pa_cons (pv 0) pa_nil)))) pss_nil)
      (pss_cons (ps_set (i := 1) sc_signature_of.nd rfl (by first | exact Or.inl rfl | exact Or.inr rfl) (pe_slice sl_str (pv 0) po_none (po_some pe_int)))
      (pss_cons (ps_set (i := 2) sc_signature_of.nd rfl (by first | exact Or.inl rfl | exact Or.inr rfl) (pe_slice sl_str (pv 0) (po_some pe_int) po_none))
      (pss_cons (ps_set (i := 3) sc_signature_of.nd rfl (by first | exact Or.inl rfl | exact Or.inr rfl) (pe_get2T T.d_CONVERTED_KINDS (pe_glob (v := .ref cs.t_CONVERTED_KINDS) (by rfl) T.g_CONVERTED_KINDS rfl) (pv 0) (pv 1) ⟨by rfl, by rfl, by rfl, by rfl⟩))
      (pss_cons (ps_set (i := 4) sc_signature_of.nd rfl (by first | exact Or.inl rfl | exact Or.inr rfl) (pe_tup (pa_cons (pv 1) pa_nil)))
      (C8.pss_cut (ps_if (pt_cmpR op_in_seq (pv 2) (pe_glob (v := .ref cs.t_COMPARISONS) (by rfl) T.g_COMPARISONS rfl) (by first | rfl | exact nomark _)) (pss_one (ps_set (i := 4) sc_signature_of.nd rfl (by first | exact Or.inl rfl | exact Or.inr rfl) (pe_tup (pa_cons pe_str pa_nil)))) pss_nil)
      (pss_cons (ps_if (pt_cmpR (op_inT T.d_ONE_OPERAND) (pv 2) (pe_glob (v := .ref cs.t_ONE_OPERAND) (by rfl) T.g_ONE_OPERAND rfl) (by first | rfl | exact nomark _)) (pss_one (ps_ret (pe_tup (pa_cons (pe_tup (pa_cons (pv 3) pa_nil)) (pa_cons (pv 4) pa_nil))))) pss_nil)
      (pss_one (ps_ret (pe_tup (pa_cons (pe_tup (pa_cons (pv 3) (pa_cons (pv 3) pa_nil))) (pa_cons (pv 4) pa_nil)))))))))))), ?_⟩
    refine ⟨_, rfl, _, _, rfl, .inr T.d_INSTRUCTIONS.sq, rfl, flat_strs _, ?_⟩
    walk_at "go"
    cases hk : Known z with
    | false =>
      simp only [show inV (.str z) (v_INSTRUCTIONS.map V.str) = false from hk]
      walk_at "go"
      exact fly1 fun d Hf s1 e1 => qe hk d Hf s1 e1
    | true =>
      simp only [show inV (.str z) (v_INSTRUCTIONS.map V.str) = true from hk]
      have q := q hk
      walk_at "go"
      intro r hr
      have eT : (valS (v_CONVERTED_KINDS cs) z).getD (.str (cutS z none (some 3))) = .str (takenS z) := conv_is cs z
      rw [eT]
      refine ⟨fun σ H2 => ∃ r, σ = [some (.str z), some (.str (kindOf z)), some (.str (wordOf z)), some (.str (takenS z)), some (.ref r)] ∧ Same H H2 ∧ H2 r = some (.tup [.str (resS z)]), ?_, ?_⟩
      · refine ⟨_, rfl, _, _, rfl, .inr T.d_COMPARISONS.sq, rfl, flat_strs _, ?_⟩
        walk_at "go"
        refine ite2 (fun c => ?_) (fun c => ?_)
        · walk_at "go"
          intro r2 hr2
          refine ⟨r2, rfl, (Same.new hr).trans (Same.new hr2), ?_⟩
          rw [upd_same, show resS z = "i32" from if_pos c]
        · refine ⟨r, rfl, Same.new hr, ?_⟩
          rw [upd_same, show resS z = kindOf z from if_neg c]
          rfl
      rintro _ H2 ⟨r2, rfl, s2, h2⟩
      have eO := one_isS cs z
      walk_at "go"
      rw [eO]
      refine ite2 (fun c => ?_) (fun c => ?_)
      · walk_at "go"
        intro p hp
        walk_at "go"
        intro t ht
        have n1 : p ≠ r2 := (ne_of_none h2 hp).symm
        have n2 : t ≠ r2 := (ne_of_none (by rw [upd_ne n1.symm]; exact h2) ht).symm
        have n3 : t ≠ p := fun e => by rw [e, upd_same] at ht; cases ht
        refine q t p r2 _ (s2.trans ((Same.new hp).trans (Same.new ht))) upd_same ?_ ?_
        · rw [upd_ne n3.symm, upd_same, show kindsS z = _ from if_pos c]; rfl
        · rw [upd_ne n2.symm, upd_ne n1.symm]; exact h2
      · walk_at "go"
        intro p hp
        walk_at "go"
        intro t ht
        have n1 : p ≠ r2 := (ne_of_none h2 hp).symm
        have n2 : t ≠ r2 := (ne_of_none (by rw [upd_ne n1.symm]; exact h2) ht).symm
        have n3 : t ≠ p := fun e => by rw [e, upd_same] at ht; cases ht
        refine q t p r2 _ (s2.trans ((Same.new hp).trans (Same.new ht))) upd_same ?_ ?_
        · rw [upd_ne n3.symm, upd_same, show kindsS z = _ from if_neg c]; rfl
        · rw [upd_ne n2.symm, upd_ne n1.symm]; exact h2

def sp_calculate (K : PySem.W.Frag) (cs : Cs) : Sp := fun vs H Q E => ∃ (z : Str) (a : Addr), vs = [.str z, .ref a] ∧ z.length ≤ sizeLine ∧ Known z = false ∧ Unk cs H E z
theorem c_calculate (D : Def K mg "calculate" s_calculate ["name", "operands"]) (T : Tp w K mg cs) (c_signature_of : Cal P w K mg base (L2.CX P w) 3 "signature_of" (sp_signature_of K cs)) : Cal P w K mg base (L2.CX P w) 4 "calculate" (sp_calculate K cs) := by
  refine D.okX sc_calculate (fun vs H Q E h => ?_) (fun f cdv A outer s H vs Q E hr h => ?_)
  · obtain ⟨z, a, rfl, _⟩ := h; rfl
  · obtain ⟨z, a, rfl, hl, hk, qe⟩ := h
    refine ⟨_, (pss_cons (ps_asg (pe_cE c_signature_of hr (by decide) (passes_call (takes_of rfl rfl rfl rfl) (fun _ _ _ _ h => h)) (by rfl) (pa_cons (pv 0) pa_nil)) (pg_tup (by rfl) (pgs_cons (pg_name (i := 2) sc_calculate.nd rfl (by first | exact Or.inl rfl | exact Or.inr rfl)) (pgs_cons (pg_name (i := 3) sc_calculate.nd rfl (by first | exact Or.inl rfl | exact Or.inr rfl)) pgs_nil))))
      (pss_cons ps_never
      (pss_cons ps_never
      (pss_cons ps_never
      (pss_cons ps_never
      (pss_cons ps_never
      (pss_cons ps_never
      (pss_one ps_never)))))))), ?_⟩
    walk_at "go"
    exact ⟨fun e => (by rw [hk] at e; cases e), fun _ => qe⟩
/-! ### the law's names -/
/-! ### cells, edited names -/
def sp__law_cell (K : PySem.W.Frag) (cs : Cs) : Sp := fun vs H Q _ => ∃ (a : Addr) (ns : List Int) (k : Nat), vs = [.ref a, .int k] ∧ SqL K H a (ns.map V.int) ∧ Q (.int (ns.getD k 0)) H
theorem c__law_cell (D : Def K mg "_law_cell" s__law_cell ["script", "k"]) (T : Tp w K mg cs)  : Cal P w K mg base CX0 1 "_law_cell" (sp__law_cell K cs) := by
  refine D.ok sc__law_cell (fun vs H Q E h => ?_) (fun f cdv A outer s H vs Q E hr h => ?_)
  · obtain ⟨a, ns, k, rfl, _⟩ := h; rfl
  · obtain ⟨a, ns, k, rfl, hS, q⟩ := h
    refine ⟨_, (pss_cons (ps_if (pt_cmpR op_lt (pv 1) (pe_callB call_len_seq (by rfl) T.m_len PySem.boot_len (pa_cons (pv 0) pa_nil)) (by first | rfl | exact nomark _)) (pss_one (ps_ret (pe_callTy call_int1 (by rfl) T.m_int (by decide +kernel) (pa_cons (pe_ix ix_list (pv 0) (pv 1) (fun _ _ => rfl)) pa_nil)))) pss_nil)
      (pss_one (ps_ret pe_int))), ?_⟩
    walk_at "go"
    simp only [List.length_map]
    refine ite2 (fun c => ?_) (fun c => ?_)
    · have c' : (k : Int) < ns.length := of_decide_eq_true c
      walk_at "go"
      exact q
    · have c' : ¬ (k : Int) < ns.length := of_decide_eq_false (Bool.eq_false_iff.mpr c)
      rw [List.getD_eq_getElem?_getD, List.getElem?_eq_none (by omega)] at q
      exact q
def sp__law_char (K : PySem.W.Frag) (cs : Cs) : Sp := fun vs H Q _ => ∃ c : Int, vs = [.int c] ∧ ∀ z : Str, z.length = 1 → Q (.str z) H
theorem ixChar {z : Str} {c : Int} {Q : VK} {H : Hp} (h0 : 0 < z.length) (h1 : z.length ≤ 1000) (q : ∀ y : Str, y.length = 1 → Q (.str y) H) : (0 : Int) < z.length ∧ rIxS (.str z) (.int (c % (z.length : Int))) H Q := by
  refine ⟨by omega, ?_⟩
  obtain ⟨k, ek, hk⟩ : ∃ k : Nat, c % (z.length : Int) = (k : Int) ∧ k < z.length := ⟨(c % (z.length : Int)).toNat, by have := Int.emod_nonneg c (show (z.length : Int) ≠ 0 by omega); omega, by have := Int.emod_lt_of_pos c (show (0 : Int) < z.length by omega); have := Int.emod_nonneg c (show (z.length : Int) ≠ 0 by omega); omega⟩
  rw [ek]
  have hk' : k < z.cps.toList.length := hk
  exact ⟨z, _, z.cps.toList[k], rfl, rfl, small64 (by omega), atI_nat (List.getElem?_eq_getElem hk'), q _ rfl⟩
theorem c__law_char (D : Def K mg "_law_char" s__law_char ["cell"]) (T : Tp w K mg cs)  : Cal P w K mg base CX0 1 "_law_char" (sp__law_char K cs) := by
  refine D.ok sc__law_char (fun vs H Q E h => ?_) (fun f cdv A outer s H vs Q E hr h => ?_)
  · obtain ⟨c, rfl, _⟩ := h; rfl
  · obtain ⟨c, rfl, q⟩ := h
    refine ⟨_, (pss_cons (ps_set (i := 1) sc__law_char.nd rfl (by first | exact Or.inl rfl | exact Or.inr rfl) pe_str)
      (pss_one (ps_ret (pe_ix ix_str (pv 1) (pe_op op_mod (pe_callTy call_int1 (by rfl) T.m_int (by decide +kernel) (pa_cons (pv 0) pa_nil)) (pe_callB call_len_str (by rfl) T.m_len PySem.boot_len (pa_cons (pv 1) pa_nil))) (fun _ _ => rfl))))), ?_⟩
    walk_at "go"
    exact ixChar (by decide +kernel) (by decide +kernel) q
def sp__law_edited (K : PySem.W.Frag) (cs : Cs) : Sp := fun vs H Q _ => ∃ (z : Str) (c : Int), vs = [.str z, .int c] ∧ z.length ≤ 100 ∧ ∀ z' : Str, z'.length ≤ 300 → Q (.str z') H
theorem addS {a b : Str} {Q : VK} {H : Hp} (n m : Nat) (ha : a.length ≤ n) (hb : b.length ≤ m) (h : n + m ≤ 1000) (q : Q (.str (a ++ b)) H) : ∃ i j, V.str a = .str i ∧ V.str b = .str j ∧ i.length + j.length ≤ sizeLine ∧ Q (.str (i ++ j)) H :=
  ⟨a, b, rfl, rfl, small64 (by omega), q⟩
theorem c__law_edited (D : Def K mg "_law_edited" s__law_edited ["name", "cell"]) (T : Tp w K mg cs) (c__law_char : Cal P w K mg base CX0 1 "_law_char" (sp__law_char K cs)) : Cal P w K mg base CX0 2 "_law_edited" (sp__law_edited K cs) := by
  refine D.ok sc__law_edited (fun vs H Q E h => ?_) (fun f cdv A outer s H vs Q E hr h => ?_)
  · obtain ⟨z, c, rfl, _⟩ := h; rfl
  · obtain ⟨z, c, rfl, hz, q⟩ := h
    refine ⟨_, (pss_cons (ps_set (i := 2) sc__law_edited.nd rfl (by first | exact Or.inl rfl | exact Or.inr rfl) (pe_op op_mod (pe_op op_fdiv (pe_callTy call_int1 (by rfl) T.m_int (by decide +kernel) (pa_cons (pv 1) pa_nil)) pe_int) (pe_op op_add (pe_callB call_len_str (by rfl) T.m_len PySem.boot_len (pa_cons (pv 0) pa_nil)) pe_int)))
      (pss_cons (ps_set (i := 3) sc__law_edited.nd rfl (by first | exact Or.inl rfl | exact Or.inr rfl) (pe_c c__law_char hr (by decide) (by rfl) (pa_cons (pe_op op_fdiv (pv 1) pe_int) pa_nil)))
      (pss_cons (ps_if (pt_cmpR op_eq (pe_op op_mod (pe_callTy call_int1 (by rfl) T.m_int (by decide +kernel) (pa_cons (pv 1) pa_nil)) pe_int) pe_int (by first | rfl | exact nomark _)) (pss_one (ps_ret (pe_op op_add_str (pe_op op_add_str (pe_slice sl_str (pv 0) po_none (po_some (pv 2))) (pv 3)) (pe_slice sl_str (pv 0) (po_some (pv 2)) po_none)))) pss_nil)
      (pss_cons (ps_if (pt_cmpR op_eq (pe_op op_mod (pe_callTy call_int1 (by rfl) T.m_int (by decide +kernel) (pa_cons (pv 1) pa_nil)) pe_int) pe_int (by first | rfl | exact nomark _)) (pss_one (ps_ret (pe_op op_add_str (pe_slice sl_str (pv 0) po_none (po_some (pv 2))) (pe_slice sl_str (pv 0) (po_some (pe_op op_add (pv 2) pe_int)) po_none)))) pss_nil)
      (pss_cons (ps_if (pt_cmpR op_eq (pe_op op_mod (pe_callTy call_int1 (by rfl) T.m_int (by decide +kernel) (pa_cons (pv 1) pa_nil)) pe_int) pe_int (by first | rfl | exact nomark _)) (pss_one (ps_ret (pe_op op_add_str (pe_op op_add_str (pe_slice sl_str (pv 0) po_none (po_some (pv 2))) (pv 3)) (pe_slice sl_str (pv 0) (po_some (pe_op op_add (pv 2) pe_int)) po_none)))) pss_nil)
      (pss_one (ps_ret (pe_op op_add_str (pe_slice sl_str (pv 0) (po_some (pv 2)) po_none) (pe_slice sl_str (pv 0) po_none (po_some (pv 2))))))))))), ?_⟩
    have cl : ∀ l h, (cutS z l h).length ≤ 100 := fun l h => Nat.le_trans (cutS_length z l h) hz
    have hzS : z.length ≤ sizeLine := small64 (by omega)
    walk_at "go"
    intro ch hch
    walk_at "go"
    refine ite2 (fun c => ?_) (fun c => ?_)
    · walk_at "go"
      refine ⟨small64 (Nat.le_trans (Nat.add_le_add (cl _ _) (Nat.le_of_eq hch)) (by decide)), ?_⟩
      walk_at "go"
      refine ⟨small64 (by rw [PySem.Str.length_append]; exact Nat.le_trans (Nat.add_le_add (Nat.add_le_add (cl _ _) (Nat.le_of_eq hch)) (cl _ _)) (by decide)), ?_⟩
      refine q _ ?_
      rw [PySem.Str.length_append, PySem.Str.length_append]
      exact Nat.le_trans (Nat.add_le_add (Nat.add_le_add (cl _ _) (Nat.le_of_eq hch)) (cl _ _)) (by decide)
    walk_at "go"
    refine ite2 (fun c => ?_) (fun c => ?_)
    · walk_at "go"
      refine ⟨small64 (Nat.le_trans (Nat.add_le_add (cl _ _) (cl _ _)) (by decide)), ?_⟩
      refine q _ ?_
      rw [PySem.Str.length_append]
      exact Nat.le_trans (Nat.add_le_add (cl _ _) (cl _ _)) (by decide)
    walk_at "go"
    refine ite2 (fun c => ?_) (fun c => ?_)
    · walk_at "go"
      refine ⟨small64 (Nat.le_trans (Nat.add_le_add (cl _ _) (Nat.le_of_eq hch)) (by decide)), ?_⟩
      walk_at "go"
      refine ⟨small64 (by rw [PySem.Str.length_append]; exact Nat.le_trans (Nat.add_le_add (Nat.add_le_add (cl _ _) (Nat.le_of_eq hch)) (cl _ _)) (by decide)), ?_⟩
      refine q _ ?_
      rw [PySem.Str.length_append, PySem.Str.length_append]
      exact Nat.le_trans (Nat.add_le_add (Nat.add_le_add (cl _ _) (Nat.le_of_eq hch)) (cl _ _)) (by decide)
    walk_at "go"
    refine ⟨small64 (Nat.le_trans (Nat.add_le_add (cl _ _) (cl _ _)) (by decide)), ?_⟩
    refine q _ ?_
    rw [PySem.Str.length_append]
    exact Nat.le_trans (Nat.add_le_add (cl _ _) (cl _ _)) (by decide)

def lw13 : List Str := ["add", "sub", "mul", "div_s", "div_u", "rem_s", "rem_u", "and", "or", "xor", "shl", "shr_s", "shr_u"]
def lw12 : List Str := ["rotl", "rotr", "eq", "ne", "lt_s", "lt_u", "gt_s", "gt_u", "le_s", "le_u", "ge_s", "ge_u"]
def lw6 : List Str := ["eqz", "clz", "ctz", "popcnt", "extend8_s", "extend16_s"]
def lw4 : List Str := ["i64.extend32_s", "i32.wrap_i64", "i64.extend_i32_s", "i64.extend_i32_u"]
def lw31 : List Str := lw13 ++ lw12 ++ lw6
def namesL : List Str := lw31.map (("i32." : Str) ++ ·) ++ lw31.map (("i64." : Str) ++ ·) ++ lw4
def sp__law_names (K : PySem.W.Frag) (cs : Cs) : Sp := fun vs H Q _ => vs = [] ∧ LstS H Q namesL
theorem c__law_names (D : Def K mg "_law_names" s__law_names []) (T : Tp w K mg cs)  : Cal P w K mg base CX0 1 "_law_names" (sp__law_names K cs) := by
  refine D.ok sc__law_names (fun vs H Q E h => ?_) (fun f cdv A outer s H vs Q E hr h => ?_)
  · exact h.1 ▸ rfl
  · obtain ⟨rfl, q⟩ := h
    refine ⟨_, (pss_cons (ps_set (i := 0) sc__law_names.nd rfl (by first | exact Or.inl rfl | exact Or.inr rfl) (pe_lst (pa_cons pe_str (pa_cons pe_str (pa_cons pe_str (pa_cons pe_str (pa_cons pe_str (pa_cons pe_str (pa_cons pe_str (pa_cons pe_str (pa_cons pe_str (pa_cons pe_str (pa_cons pe_str (pa_cons pe_str (pa_cons pe_str pa_nil)))))))))))))))
      (pss_cons (ps_set (i := 0) sc__law_names.nd rfl (by first | exact Or.inl rfl | exact Or.inr rfl) (pe_op op_cat (pv 0) (pe_lst (pa_cons pe_str (pa_cons pe_str (pa_cons pe_str (pa_cons pe_str (pa_cons pe_str (pa_cons pe_str (pa_cons pe_str (pa_cons pe_str (pa_cons pe_str (pa_cons pe_str (pa_cons pe_str (pa_cons pe_str pa_nil)))))))))))))))
      (pss_cons (ps_set (i := 0) sc__law_names.nd rfl (by first | exact Or.inl rfl | exact Or.inr rfl) (pe_op op_cat (pv 0) (pe_lst (pa_cons pe_str (pa_cons pe_str (pa_cons pe_str (pa_cons pe_str (pa_cons pe_str (pa_cons pe_str pa_nil)))))))))
      (pss_cons (ps_set (i := 1) sc__law_names.nd rfl (by first | exact Or.inl rfl | exact Or.inr rfl) (pe_op op_cat (pe_lc (own := [("word", 2)]) (g := gName 2) (tt := tYes) (by rfl) sc__law_names.nd (pi_list (pv 0)) (blkOk_by (own := [("word", 2)]) (N := ["words", "names", "word"]) (sc := defScope s__law_names) (by decide +kernel)) (fun _ _ _ _ _ => (pg_name (i := 2) sc__law_names.nd rfl (by first | exact Or.inl rfl | exact Or.inr rfl))) (fun _ _ _ _ _ => pts_nil) (fun _ _ _ _ _ => (pe_op op_add_str pe_str (pv 2)))) (pe_lc (own := [("word", 2)]) (g := gName 2) (tt := tYes) (by rfl) sc__law_names.nd (pi_list (pv 0)) (blkOk_by (own := [("word", 2)]) (N := ["words", "names", "word"]) (sc := defScope s__law_names) (by decide +kernel)) (fun _ _ _ _ _ => (pg_name (i := 2) sc__law_names.nd rfl (by first | exact Or.inl rfl | exact Or.inr rfl))) (fun _ _ _ _ _ => pts_nil) (fun _ _ _ _ _ => (pe_op op_add_str pe_str (pv 2))))))
      (pss_one (ps_ret (pe_op op_cat (pv 1) (pe_lst (pa_cons pe_str (pa_cons pe_str (pa_cons pe_str (pa_cons pe_str pa_nil)))))))))))), ?_⟩
    walk_at "go"
    intro p1 h1
    generalize e1 : upd H p1 _ = H1
    obtain ⟨s1, k1⟩ := newE (zs := lw13) h1 e1 rfl
    walk_at "go"
    intro p2 h2
    generalize e2 : upd H1 p2 _ = H2
    obtain ⟨s2, k2⟩ := newE (zs := lw12) h2 e2 rfl
    refine catE (s2 _ _ k1) k2 (by decide) (fun p3 H3 s3 h3 k3 => ?_)
    walk_at "go"
    intro p4 h4
    generalize e4 : upd H3 p4 _ = H4
    obtain ⟨s4, k4⟩ := newE (zs := lw6) h4 e4 rfl
    refine catE (s4 _ _ k3) k4 (by decide) (fun p5 H5 s5 h5 k5 => ?_)
    walk_at "go"
    refine ⟨⟨_, SqL.of k5⟩, fun D6 h6 => ?_⟩
    refine lc_mapS (j := 2) (fun z => ("i32." : Str) ++ z) h6 (SqL.of k5) (by decide) (fun z H2 Q2 hz s2 q2 => ?_) (fun H6 s6 k6 => ?_)
    · have hl : ("i32." : Str).length + z.length ≤ sizeLine := small64 (Nat.le_trans ((show ∀ z ∈ (lw13 ++ lw12 ++ lw6), ("i32." : Str).length + z.length ≤ 1000 by decide +kernel) z hz) (by decide))
      walk_at "go"
      exact q2 _ (Same.refl _)
    walk_at "go"
    refine ⟨⟨_, SqL.of (s6 _ _ k5)⟩, fun D7 h7 => ?_⟩
    refine lc_mapS (j := 2) (fun z => ("i64." : Str) ++ z) h7 (SqL.of (s6 _ _ k5)) (by decide) (fun z H2 Q2 hz s2 q2 => ?_) (fun H7 s7 k7 => ?_)
    · have hl : ("i64." : Str).length + z.length ≤ sizeLine := small64 (Nat.le_trans ((show ∀ z ∈ (lw13 ++ lw12 ++ lw6), ("i64." : Str).length + z.length ≤ 1000 by decide +kernel) z hz) (by decide))
      walk_at "go"
      exact q2 _ (Same.refl _)
    refine catE (s7 _ _ k6) k7 (by decide) (fun p8 H8 s8 h8 k8 => ?_)
    walk_at "go"
    intro p9 h9
    generalize e9 : upd H8 p9 _ = H9
    obtain ⟨s9, k9⟩ := newE (zs := lw4) h9 e9 rfl
    refine catE (s9 _ _ k8) k9 (by decide) (fun p10 H10 s10 h10 k10 => ?_)
    refine q p10 H10 (s1.trans (s2.trans (s3.trans (s4.trans (s5.trans (s6.trans (s7.trans (s8.trans (s9.trans (s10)))))))))) ?_ k10
    exact none_of (s1.trans (s2.trans (s3.trans (s4.trans (s5.trans (s6.trans (s7.trans (s8.trans (s9))))))))) h10
def nm (kd w : Str) : Str := (kd ++ (".": Str)) ++ w
def lw25 : List Str := lw13 ++ lw12
def kds : List Str := ["i32", "i64"]
def RQ (H : Hp) (Q : VK) (ks : List Str) : Prop := ∀ t H', Same H H' → H' t = some (.tup (ks.map V.str)) → Q (.ref t) H'
def ParQ (z : Str) (R : List Str → Prop) (N : Prop) : Prop := (z = "i32.wrap_i64" ∨ z = "i64.extend32_s" → R ["i64"]) ∧ (z = "i64.extend_i32_s" ∨ z = "i64.extend_i32_u" → R ["i32"]) ∧
  (∀ kd ∈ kds, z ∈ lw25.map (nm kd) → R [kd, kd]) ∧ (∀ kd ∈ kds, z ∈ lw6.map (nm kd) → R [kd]) ∧
  (¬ z = "i32.wrap_i64" → ¬ z = "i64.extend32_s" → ¬ z = "i64.extend_i32_s" → ¬ z = "i64.extend_i32_u" → (∀ kd ∈ kds, ¬ z ∈ lw25.map (nm kd)) → (∀ kd ∈ kds, ¬ z ∈ lw6.map (nm kd)) → N)
def sp__law_params (K : PySem.W.Frag) (cs : Cs) : Sp := fun vs H Q _ => ∃ z : Str, vs = [.str z] ∧ z.length ≤ 1000 ∧ ParQ z (RQ H Q) (∀ H', Same H H' → Q .non H')
theorem c__law_params (D : Def K mg "_law_params" s__law_params ["name"]) (T : Tp w K mg cs)  : Cal P w K mg base CX0 1 "_law_params" (sp__law_params K cs) := by
  refine D.ok sc__law_params (fun vs H Q E h => ?_) (fun f cdv A outer s H vs Q E hr h => ?_)
  · obtain ⟨z, rfl, _⟩ := h; rfl
  · obtain ⟨z, rfl, hz, q1, q2, q3, q4, q5⟩ := h
    refine ⟨_, (pss_cons (ps_set (i := 1) sc__law_params.nd rfl (by first | exact Or.inl rfl | exact Or.inr rfl) (pe_lst (pa_cons pe_str (pa_cons pe_str (pa_cons pe_str (pa_cons pe_str (pa_cons pe_str (pa_cons pe_str (pa_cons pe_str (pa_cons pe_str (pa_cons pe_str (pa_cons pe_str (pa_cons pe_str (pa_cons pe_str (pa_cons pe_str pa_nil)))))))))))))))
      (pss_cons (ps_set (i := 1) sc__law_params.nd rfl (by first | exact Or.inl rfl | exact Or.inr rfl) (pe_op op_cat (pv 1) (pe_lst (pa_cons pe_str (pa_cons pe_str (pa_cons pe_str (pa_cons pe_str (pa_cons pe_str (pa_cons pe_str (pa_cons pe_str (pa_cons pe_str (pa_cons pe_str (pa_cons pe_str (pa_cons pe_str (pa_cons pe_str pa_nil)))))))))))))))
      (pss_cons (ps_set (i := 2) sc__law_params.nd rfl (by first | exact Or.inl rfl | exact Or.inr rfl) (pe_lst (pa_cons pe_str (pa_cons pe_str (pa_cons pe_str (pa_cons pe_str (pa_cons pe_str (pa_cons pe_str pa_nil))))))))
      (pss_cons (ps_if (PW.pt (pw_or (pt_cmpR op_eq (pv 0) pe_str (by first | rfl | exact nomark _)) (pw_or1 (pt_cmpR op_eq (pv 0) pe_str (by first | rfl | exact nomark _))))) (pss_one (ps_ret (pe_tup (pa_cons pe_str pa_nil)))) pss_nil)
      (pss_cons (ps_if (PW.pt (pw_or (pt_cmpR op_eq (pv 0) pe_str (by first | rfl | exact nomark _)) (pw_or1 (pt_cmpR op_eq (pv 0) pe_str (by first | rfl | exact nomark _))))) (pss_one (ps_ret (pe_tup (pa_cons pe_str pa_nil)))) pss_nil)
      (pss_cons (ps_for PassesOwn.never rfl (pi_list (pe_lst (pa_cons pe_str (pa_cons pe_str pa_nil)))) (pg_name (i := 3) sc__law_params.nd rfl (by first | exact Or.inl rfl | exact Or.inr rfl)) (pss_cons (ps_for PassesOwn.never rfl (pi_list (pv 1)) (pg_name (i := 4) sc__law_params.nd rfl (by first | exact Or.inl rfl | exact Or.inr rfl)) (pss_one (ps_if (pt_cmpR op_eq (pv 0) (pe_op op_add_str (pe_op op_add_str (pv 3) pe_str) (pv 4)) (by first | rfl | exact nomark _)) (pss_one (ps_ret (pe_tup (pa_cons (pv 3) (pa_cons (pv 3) pa_nil))))) pss_nil)))
      (pss_one (ps_for PassesOwn.never rfl (pi_list (pv 2)) (pg_name (i := 4) sc__law_params.nd rfl (by first | exact Or.inl rfl | exact Or.inr rfl)) (pss_one (ps_if (pt_cmpR op_eq (pv 0) (pe_op op_add_str (pe_op op_add_str (pv 3) pe_str) (pv 4)) (by first | rfl | exact nomark _)) (pss_one (ps_ret (pe_tup (pa_cons (pv 3) pa_nil)))) pss_nil))))))
      (pss_one (ps_ret pe_non)))))))), ?_⟩
    walk_at "go"
    intro p1 h1
    generalize e1 : upd H p1 _ = H1
    obtain ⟨s1, k1⟩ := newE (zs := lw13) h1 e1 rfl
    walk_at "go"
    intro p2 h2
    generalize e2 : upd H1 p2 _ = H2
    obtain ⟨s2, k2⟩ := newE (zs := lw12) h2 e2 rfl
    refine catE (s2 _ _ k1) k2 (by decide) (fun p3 H3 s3 h3 k3 => ?_)
    walk_at "go"
    intro p4 h4
    generalize e4 : upd H3 p4 _ = H4
    obtain ⟨s4, k4⟩ := newE (zs := lw6) h4 e4 rfl
    have k3' := s4 _ _ k3
    have s : Same H H4 := (s1.trans (s2.trans (s3.trans (s4))))
    clear e1 e2 e4 s1 s2 s3 s4 k1 k2 k3 h1 h2 h3 h4
    walk_at "go"
    by_cases c1 : z = "i32.wrap_i64"
    · refine ifS c1 ?_
      walk_at "go"
      intro t ht
      exact q1 (.inl c1) t _ (s.trans (Same.new ht)) upd_same
    refine ifSN c1 ?_
    walk_at "go"
    by_cases c2 : z = "i64.extend32_s"
    · refine ifS c2 ?_
      walk_at "go"
      intro t ht
      exact q1 (.inr c2) t _ (s.trans (Same.new ht)) upd_same
    refine ifSN c2 ?_
    walk_at "go"
    by_cases c3 : z = "i64.extend_i32_s"
    · refine ifS c3 ?_
      walk_at "go"
      intro t ht
      exact q2 (.inl c3) t _ (s.trans (Same.new ht)) upd_same
    refine ifSN c3 ?_
    walk_at "go"
    by_cases c4 : z = "i64.extend_i32_u"
    · refine ifS c4 ?_
      walk_at "go"
      intro t ht
      exact q2 (.inr c4) t _ (s.trans (Same.new ht)) upd_same
    refine ifSN c4 ?_
    walk_at "go"
    intro p5 h5
    refine ⟨p5, rfl, ⟨_, SqL.new⟩, ?_⟩
    refine for_listD (K := K) (a := p5) (xs := kds.map V.str) (fun j σ H5 => Same H4 H5 ∧ H5 p5 = some (.lst (kds.map V.str)) ∧ (∀ kd ∈ kds.take j, ¬ z ∈ lw25.map (nm kd) ∧ ¬ z ∈ lw6.map (nm kd)) ∧ ∃ o3 o4, σ = [some (.str z), some (.ref p3), some (.ref p4), o3, o4]) ⟨Same.new h5, upd_same, (fun _ h => nomatch h), _, _, rfl⟩ (fun j σ H5 _ h => SqL.of h.2.1) ?_ ?_
    · rintro j v _ H5 hj ⟨s5, hW, hno, o3, o4, rfl⟩
      obtain ⟨kd, hkd, rfl⟩ : ∃ kd, kds[j]? = some kd ∧ v = .str kd := by
        rw [List.getElem?_map] at hj
        cases e : kds[j]? with
        | none => rw [e] at hj; cases hj
        | some kd => rw [e] at hj; cases hj; exact ⟨kd, rfl, rfl⟩
      have hkm := List.mem_of_getElem? hkd
      have k35 := s5 _ _ k3'
      have k45 := s5 _ _ k4
      have hl1 : kd.length + ("." : Str).length ≤ sizeLine := small64 (Nat.le_trans ((show ∀ kd ∈ kds, kd.length + ("." : Str).length ≤ 10 by decide +kernel) kd hkm) (by decide))
      have hl25 : ∀ w ∈ lw25, (kd ++ ("." : Str)).length + w.length ≤ sizeLine := fun w hw => small64 (Nat.le_trans ((show ∀ kd ∈ kds, ∀ w ∈ lw25, (kd ++ ("." : Str)).length + w.length ≤ 100 by decide +kernel) kd hkm w hw) (by decide))
      have hl6 : ∀ w ∈ lw6, (kd ++ ("." : Str)).length + w.length ≤ sizeLine := fun w hw => small64 (Nat.le_trans ((show ∀ kd ∈ kds, ∀ w ∈ lw6, (kd ++ ("." : Str)).length + w.length ≤ 100 by decide +kernel) kd hkm w hw) (by decide))
      walk_at "go"
      refine ⟨⟨_, SqL.of k35⟩, ?_⟩
      refine for_listD (K := K) (a := p3) (xs := lw25.map V.str) (fun k σ H6 => H6 = H5 ∧ ¬ z ∈ (lw25.take k).map (nm kd) ∧ ∃ o4, σ = [some (.str z), some (.ref p3), some (.ref p4), some (.str kd), o4]) ⟨rfl, (fun h => nomatch h), _, rfl⟩ (fun k σ H6 _ h => SqL.of (h.1 ▸ k35)) ?_ ?_
      · rintro k v _ H6 hk ⟨rfl, hno1, o4, rfl⟩
        obtain ⟨w, hw, rfl⟩ : ∃ w, lw25[k]? = some w ∧ v = .str w := by
          rw [List.getElem?_map] at hk
          cases e : lw25[k]? with
          | none => rw [e] at hk; cases hk
          | some w => rw [e] at hk; cases hk; exact ⟨w, rfl, rfl⟩
        have hwl := hl25 w (List.mem_of_getElem? hw)
        walk_at "go"
        by_cases c : z = nm kd w
        · refine ifS c ?_
          walk_at "go"
          intro t ht
          exact q3 kd hkm (c ▸ List.mem_map.mpr ⟨w, List.mem_of_getElem? hw, rfl⟩) t _ (s.trans (s5.trans (Same.new ht))) upd_same
        refine ifSN c ?_
        refine ⟨rfl, fun h => ?_, _, rfl⟩
        rw [List.take_add_one, hw, List.map_append] at h
        rcases List.mem_append.mp h with h | h
        · exact hno1 h
        · exact c (List.mem_singleton.mp h)
      rintro _ H6 ⟨rfl, hno1, o4, rfl⟩
      rw [List.length_map, List.take_length] at hno1
      walk_at "go"
      refine ⟨⟨_, SqL.of k45⟩, ?_⟩
      refine for_listD (K := K) (a := p4) (xs := lw6.map V.str) (fun k σ H7 => H7 = H6 ∧ ¬ z ∈ (lw6.take k).map (nm kd) ∧ ∃ o4, σ = [some (.str z), some (.ref p3), some (.ref p4), some (.str kd), o4]) ⟨rfl, (fun h => nomatch h), _, rfl⟩ (fun k σ H6 _ h => SqL.of (h.1 ▸ k45)) ?_ ?_
      · rintro k v _ H7 hk ⟨rfl, hno2, o4, rfl⟩
        obtain ⟨w, hw, rfl⟩ : ∃ w, lw6[k]? = some w ∧ v = .str w := by
          rw [List.getElem?_map] at hk
          cases e : lw6[k]? with
          | none => rw [e] at hk; cases hk
          | some w => rw [e] at hk; cases hk; exact ⟨w, rfl, rfl⟩
        have hwl := hl6 w (List.mem_of_getElem? hw)
        walk_at "go"
        by_cases c : z = nm kd w
        · refine ifS c ?_
          walk_at "go"
          intro t ht
          exact q4 kd hkm (c ▸ List.mem_map.mpr ⟨w, List.mem_of_getElem? hw, rfl⟩) t _ (s.trans (s5.trans (Same.new ht))) upd_same
        refine ifSN c ?_
        refine ⟨rfl, fun h => ?_, _, rfl⟩
        rw [List.take_add_one, hw, List.map_append] at h
        rcases List.mem_append.mp h with h | h
        · exact hno2 h
        · exact c (List.mem_singleton.mp h)
      rintro _ H7 ⟨rfl, hno2, o4, rfl⟩
      rw [List.length_map, List.take_length] at hno2
      refine ⟨s5, hW, fun kd2 h2 => ?_, _, _, rfl⟩
      rw [List.take_add_one, hkd] at h2
      rcases List.mem_append.mp h2 with h2 | h2
      · exact hno _ h2
      · rw [List.mem_singleton.mp h2]; exact ⟨hno1, hno2⟩
    · rintro _ H5 ⟨s5, hW, hno, o3, o4, rfl⟩
      rw [List.length_map, List.take_length] at hno
      exact q5 c1 c2 c3 c4 (fun kd h => (hno kd h).1) (fun kd h => (hno kd h).2) _ (s.trans s5)
def cmpL : List Str := ["eqz", "eq", "ne", "lt_s", "lt_u", "gt_s", "gt_u", "le_s", "le_u", "ge_s", "ge_u"]
def sp__law_results (K : PySem.W.Frag) (cs : Cs) : Sp := fun vs H Q _ => ∃ z : Str, vs = [.str z] ∧ z.length ≤ 1000 ∧ RQ H Q [resS z]
theorem res_in {z : Str} (h : wordOf z ∈ cmpL) : resS z = "i32" := if_pos ((inV_mem _ v_COMPARISONS).mpr h)
theorem res_out {z : Str} (h : ¬ wordOf z ∈ cmpL) : resS z = kindOf z := if_neg (fun e => h ((inV_mem _ v_COMPARISONS).mp e))
theorem c__law_results (D : Def K mg "_law_results" s__law_results ["name"]) (T : Tp w K mg cs)  : Cal P w K mg base CX0 1 "_law_results" (sp__law_results K cs) := by
  refine D.ok sc__law_results (fun vs H Q E h => ?_) (fun f cdv A outer s H vs Q E hr h => ?_)
  · obtain ⟨z, rfl, _⟩ := h; rfl
  · obtain ⟨z, rfl, hz, q⟩ := h
    refine ⟨_, (pss_cons (ps_set (i := 1) sc__law_results.nd rfl (by first | exact Or.inl rfl | exact Or.inr rfl) (pe_slice sl_str (pv 0) (po_some pe_int) po_none))
      (pss_cons (ps_for PassesOwn.never rfl (pi_list (pe_lst (pa_cons pe_str (pa_cons pe_str (pa_cons pe_str (pa_cons pe_str (pa_cons pe_str (pa_cons pe_str (pa_cons pe_str (pa_cons pe_str (pa_cons pe_str (pa_cons pe_str (pa_cons pe_str pa_nil))))))))))))) (pg_name (i := 2) sc__law_results.nd rfl (by first | exact Or.inl rfl | exact Or.inr rfl)) (pss_one (ps_if (pt_cmpR op_eq (pv 1) (pv 2) (by first | rfl | exact nomark _)) (pss_one (ps_ret (pe_tup (pa_cons pe_str pa_nil)))) pss_nil)))
      (pss_one (ps_ret (pe_tup (pa_cons (pe_slice sl_str (pv 0) po_none (po_some pe_int)) pa_nil)))))), ?_⟩
    have hzS : z.length ≤ sizeLine := small64 (by omega)
    walk_at "go"
    intro p5 h5
    refine ⟨p5, rfl, ⟨_, SqL.new⟩, ?_⟩
    refine for_listD (K := K) (a := p5) (xs := cmpL.map V.str) (fun j σ H5 => Same H H5 ∧ H5 p5 = some (.lst (cmpL.map V.str)) ∧ (¬ wordOf z ∈ cmpL.take j) ∧ ∃ o2, σ = [some (.str z), some (.str (wordOf z)), o2]) ⟨Same.new h5, upd_same, (fun h => nomatch h), _, rfl⟩ (fun j σ H5 _ h => SqL.of h.2.1) ?_ ?_
    · rintro k v _ H5 hk ⟨s5, hW, hno, o2, rfl⟩
      obtain ⟨w, hw, rfl⟩ : ∃ w, cmpL[k]? = some w ∧ v = .str w := by
        rw [List.getElem?_map] at hk
        cases e : cmpL[k]? with
        | none => rw [e] at hk; cases hk
        | some w => rw [e] at hk; cases hk; exact ⟨w, rfl, rfl⟩
      walk_at "go"
      by_cases c : wordOf z = w
      · refine ifS c ?_
        walk_at "go"
        intro t ht
        rw [res_in (c ▸ List.mem_of_getElem? hw)] at q
        exact q t _ (s5.trans (Same.new ht)) upd_same
      refine ifSN c ?_
      refine ⟨s5, hW, fun h => ?_, _, rfl⟩
      rw [List.take_add_one, hw] at h
      rcases List.mem_append.mp h with h | h
      · exact hno h
      · exact c (List.mem_singleton.mp h)
    · rintro _ H5 ⟨s5, hW, hno, o2, rfl⟩
      rw [List.length_map, List.take_length] at hno
      rw [res_out hno] at q
      walk_at "go"
      intro t ht
      exact q t _ (s5.trans (Same.new ht)) upd_same
def sp__law_kinds (K : PySem.W.Frag) (cs : Cs) : Sp := fun vs H Q _ => ∃ (a d : Addr) (ks : List Str), vs = [.ref a, .ref d] ∧ H a = some (.tup (ks.map V.str)) ∧ H d = some (.tup (ks.map V.str)) ∧ ks.length ≤ 100 ∧ Q (.bl true) H
theorem c__law_kinds (D : Def K mg "_law_kinds" s__law_kinds ["actual", "due"]) (T : Tp w K mg cs)  : Cal P w K mg base CX0 1 "_law_kinds" (sp__law_kinds K cs) := by
  refine D.ok sc__law_kinds (fun vs H Q E h => ?_) (fun f cdv A outer s H vs Q E hr h => ?_)
  · obtain ⟨a, d, ks, rfl, _⟩ := h; rfl
  · obtain ⟨a, d, ks, rfl, ha, hd, hl, q⟩ := h
    refine ⟨_, (pss_cons (ps_if (PW.pt (pw_or (pt_not (pt_val (pe_callB call_isi (by rfl) T.m_isinstance (by decide +kernel) (pa_cons (pv 0) (pa_cons (pe_bltn (v := .ty "tuple") (u := .type "tuple") (by rfl) T.m_tuple (by decide +kernel) rfl) pa_nil))))) (pw_or1 (pt_cmpR op_ne (pe_callB call_len_seq (by rfl) T.m_len PySem.boot_len (pa_cons (pv 0) pa_nil)) (pe_callB call_len_seq (by rfl) T.m_len PySem.boot_len (pa_cons (pv 1) pa_nil)) (by first | rfl | exact nomark _))))) (pss_one (ps_ret pe_bl)) pss_nil)
      (pss_cons (ps_for PassesOwn.never rfl (pi_range1 (by rfl) T.m_range (pa_cons (pe_callB call_len_seq (by rfl) T.m_len PySem.boot_len (pa_cons (pv 1) pa_nil)) pa_nil)) (pg_name (i := 2) sc__law_kinds.nd rfl (by first | exact Or.inl rfl | exact Or.inr rfl)) (pss_one (ps_if (PW.pt (pw_or (pt_not (pt_val (pe_callB call_isi (by rfl) T.m_isinstance (by decide +kernel) (pa_cons (pe_ix ix_tup (pv 0) (pv 2) (fun _ _ => rfl)) (pa_cons (pe_bltn (v := .ty "str") (u := .type "str") (by rfl) T.m_str (by decide +kernel) rfl) pa_nil))))) (pw_or1 (pt_cmpR op_ne (pe_ix ix_tup (pv 0) (pv 2) (fun _ _ => rfl)) (pe_ix ix_tup (pv 1) (pv 2) (fun _ _ => rfl)) (by first | rfl | exact nomark _))))) (pss_one (ps_ret pe_bl)) pss_nil)))
      (pss_one (ps_ret pe_bl)))), ?_⟩
    have ha' : SqT K H a (ks.map V.str) := SqT.of ha
    have hd' : SqT K H d (ks.map V.str) := SqT.of hd
    iterate 6 walk_at "go1"
    refine ⟨d, _, rfl, .inr hd', ?_⟩
    refine ⟨rfl, _, rfl, ifNe rfl ?_⟩
    refine ⟨_, rfl, d, _, rfl, .inr hd', ?_⟩
    rw [List.length_map]
    refine ⟨_, rfl, by omega, by omega, ?_⟩
    refine for_rangeD (lo := 0) (n := ks.length) (fun i σ H2 => H2 = H ∧ ∃ o, σ = [some (.ref a), some (.ref d), o]) ⟨rfl, none, rfl⟩ ?_ ?_
    · rintro i _ _ hi ⟨rfl, o, rfl⟩
      rw [Int.zero_add]
      obtain ⟨z, _, hat⟩ := at_strs hi
      walk_at "go"
      refine ⟨a, _, i, _, rfl, rfl, ha', hat, ?_⟩
      walk_at "go"
      refine ⟨a, _, i, _, rfl, rfl, ha', hat, ?_⟩
      walk_at "go"
      refine ⟨d, _, i, _, rfl, rfl, hd', hat, ?_⟩
      walk_at "go"
      exact ⟨_, rfl⟩
    · rintro _ _ ⟨rfl, o, rfl⟩
      exact q
/-- what the law's own tables say of the known names -/
theorem tab1K : ∀ kd ∈ kds, ∀ w ∈ lw25, kindsS (nm kd w) = [kd, kd] ∧ Known (nm kd w) = true := by decide +kernel
theorem tab2K : ∀ kd ∈ kds, ∀ w ∈ lw6, kindsS (nm kd w) = [kd] ∧ Known (nm kd w) = true := by decide +kernel
theorem tab3K : ∀ z ∈ (["i32.wrap_i64", "i64.extend32_s"] : List Str), kindsS z = (["i64"] : List Str) ∧ Known z = true := by decide +kernel
theorem tab4K : ∀ z ∈ (["i64.extend_i32_s", "i64.extend_i32_u"] : List Str), kindsS z = (["i32"] : List Str) ∧ Known z = true := by decide +kernel
theorem tab5K : ∀ z ∈ v_INSTRUCTIONS, z = "i32.wrap_i64" ∨ z = "i64.extend32_s" ∨ z = "i64.extend_i32_s" ∨ z = "i64.extend_i32_u" ∨ (∃ kd ∈ kds, z ∈ lw25.map (nm kd)) ∨ (∃ kd ∈ kds, z ∈ lw6.map (nm kd)) := by decide +kernel
theorem par_known {z : Str} {R : List Str → Prop} {N : Prop} (h : Known z = true) (r : R (kindsS z)) : ParQ z R N := by
  refine ⟨fun e => ?_, fun e => ?_, fun kd hk e => ?_, fun kd hk e => ?_, fun n1 n2 n3 n4 n5 n6 => ?_⟩
  · rw [(tab3K z (by simpa using e)).1] at r; exact r
  · rw [(tab4K z (by simpa using e)).1] at r; exact r
  · obtain ⟨w, hw, rfl⟩ := List.mem_map.mp e
    rw [(tab1K kd hk w hw).1] at r; exact r
  · obtain ⟨w, hw, rfl⟩ := List.mem_map.mp e
    rw [(tab2K kd hk w hw).1] at r; exact r
  · exfalso
    rcases tab5K z ((inV_mem z v_INSTRUCTIONS).mp h) with e | e | e | e | ⟨kd, hk, e⟩ | ⟨kd, hk, e⟩
    · exact n1 e
    · exact n2 e
    · exact n3 e
    · exact n4 e
    · exact n5 kd hk e
    · exact n6 kd hk e
theorem par_unknown {z : Str} {R : List Str → Prop} {N : Prop} (h : Known z = false) (r : N) : ParQ z R N := by
  have no : ¬ Known z = true := by rw [h]; decide
  refine ⟨fun e => ?_, fun e => ?_, fun kd hk e => ?_, fun kd hk e => ?_, fun _ _ _ _ _ _ => r⟩
  · exact absurd (tab3K z (by simpa using e)).2 no
  · exact absurd (tab4K z (by simpa using e)).2 no
  · obtain ⟨w, hw, rfl⟩ := List.mem_map.mp e
    exact absurd (tab1K kd hk w hw).2 no
  · obtain ⟨w, hw, rfl⟩ := List.mem_map.mp e
    exact absurd (tab2K kd hk w hw).2 no
def sp__law_right (K : PySem.W.Frag) (cs : Cs) : Sp := fun vs H Q _ => ∃ z : Str, vs = [.str z] ∧ z.length ≤ 1000 ∧ Known z = true ∧ ∀ H', Same H H' → Q (.bl true) H'
theorem c__law_right (D : Def K mg "_law_right" s__law_right ["name"]) (T : Tp w K mg cs) (c_signature_of : Cal P w K mg base (L2.CX P w) 3 "signature_of" (sp_signature_of K cs)) (c__law_kinds : Cal P w K mg base CX0 1 "_law_kinds" (sp__law_kinds K cs)) (c__law_params : Cal P w K mg base CX0 1 "_law_params" (sp__law_params K cs)) (c__law_results : Cal P w K mg base CX0 1 "_law_results" (sp__law_results K cs)) : Cal P w K mg base CX0 4 "_law_right" (sp__law_right K cs) := by
  refine D.ok sc__law_right (fun vs H Q E h => ?_) (fun f cdv A outer s H vs Q E hr h => ?_)
  · obtain ⟨z, rfl, _⟩ := h; rfl
  · obtain ⟨z, rfl, hz, hk, q⟩ := h
    refine ⟨_, (pss_cons (ps_set (i := 1) sc__law_right.nd rfl (by first | exact Or.inl rfl | exact Or.inr rfl) (pe_cE c_signature_of hr (by decide) passL (by rfl) (pa_cons (pv 0) pa_nil)))
      (pss_cons (ps_if (PW.pt (pw_or (pt_not (pt_val (pe_callB call_isi (by rfl) T.m_isinstance (by decide +kernel) (pa_cons (pv 1) (pa_cons (pe_bltn (v := .ty "tuple") (u := .type "tuple") (by rfl) T.m_tuple (by decide +kernel) rfl) pa_nil))))) (pw_or1 (pt_cmpR op_ne (pe_callB call_len_seq (by rfl) T.m_len PySem.boot_len (pa_cons (pv 1) pa_nil)) pe_int (by first | rfl | exact nomark _))))) (pss_one (ps_ret pe_bl)) pss_nil)
      (pss_one (ps_ret (pe_and (pe_c c__law_kinds hr (by decide) (by rfl) (pa_cons (pe_ix ix_tup (pv 1) pe_int (fun _ _ => rfl)) (pa_cons (pe_c c__law_params hr (by decide) (by rfl) (pa_cons (pv 0) pa_nil)) pa_nil))) (pe_one (pe_c c__law_kinds hr (by decide) (by rfl) (pa_cons (pe_ix ix_tup (pv 1) pe_int (fun _ _ => rfl)) (pa_cons (pe_c c__law_results hr (by decide) (by rfl) (pa_cons (pv 0) pa_nil)) pa_nil))))))))), ?_⟩
    have hzS : z.length ≤ sizeLine := small64 (by omega)
    walk_at "go"
    refine ⟨fun _ t p r H1 s1 ht hp hr => ?_, fun e => by rw [hk] at e; cases e⟩
    have ht' : SqT K H1 t [.ref p, .ref r] := SqT.of ht
    have hkl : (kindsS z).length ≤ 100 := by unfold kindsS; split <;> simp
    walk_at "go"
    refine par_known hk (fun t2 H2 s2 ht2 => ?_)
    walk_at "go"
    refine ⟨p, t2, kindsS z, rfl, s2 _ _ hp, ht2, hkl, ?_⟩
    have ht2' : SqT K H2 t [.ref p, .ref r] := SqT.of (s2 _ _ ht)
    walk_at "go"
    intro t3 H3 s3 ht3
    walk_at "go"
    refine ⟨r, t3, [resS z], rfl, (s2.trans s3) _ _ hr, ht3, by simp, ?_⟩
    exact q _ (s1.trans (s2.trans s3))
def sp__law_refused (K : PySem.W.Frag) (cs : Cs) : Sp := fun vs H Q _ => ∃ (z : Str) (a : Addr) (b : Bool), vs = [.str z, .ref a, .bl b] ∧ z.length ≤ 1000 ∧ Known z = false ∧ ∀ H', Same H H' → Q (.bl true) H'
theorem c__law_refused (D : Def K mg "_law_refused" s__law_refused ["name", "operands", "computed"]) (T : Tp w K mg cs) (c_calculate : Cal P w K mg base (L2.CX P w) 4 "calculate" (sp_calculate K cs)) (c_signature_of : Cal P w K mg base (L2.CX P w) 3 "signature_of" (sp_signature_of K cs)) : Cal P w K mg base CX0 5 "_law_refused" (sp__law_refused K cs) := by
  refine D.ok sc__law_refused (fun vs H Q E h => ?_) (fun f cdv A outer s H vs Q E hr h => ?_)
  · obtain ⟨z, a, b, rfl, _⟩ := h; rfl
  · obtain ⟨z, a, b, rfl, hz, hk, q⟩ := h
    refine ⟨_, (pss_cons (ps_try_as (i := 3) (tb := _) (ts := _) (Wout := fun _ _ _ _ => False) rfl rfl sc__law_refused.nd rfl rfl ⟨rfl, by decide, .inl T.g_HostError⟩ takes0 (fun W pn xe tk po => (pss_one (ps_if (pt_val (pv 2)) (pss_one (ps_expr (pe_cS c_calculate hr (by decide) (by rfl) (fun σ => passAt tk σ) (pa_cons (pv 0) (pa_cons (pv 1) pa_nil))))) (pss_one (ps_expr (pe_cS c_signature_of hr (by decide) (by rfl) (fun σ => passAt tk σ) (pa_cons (pv 0) pa_nil))))))) (fun a oe cls d pn hz hf => (pss_cons (ps_if (PW.pt (pw_or (pt_not (pt_val (pe_callB (call_isX hz hf T.e_UnknownInstruction) (by rfl) T.m_isinstance (by decide +kernel) (pa_cons (pv 3) (pa_cons (pe_glob (v := .ref cs.C_UnknownInstruction) (by rfl) T.g_UnknownInstruction rfl) pa_nil))))) (pw_or (pt_val (pe_callB (call_isX hz hf T.e_UnknownInstruction) (by rfl) T.m_isinstance (by decide +kernel) (pa_cons (pv 3) (pa_cons (pe_glob (v := .ref cs.C_BadValues) (by rfl) T.g_BadValues rfl) pa_nil)))) (pw_or1 (pt_val (pe_callB (call_isX hz hf T.e_UnknownInstruction) (by rfl) T.m_isinstance (by decide +kernel) (pa_cons (pv 3) (pa_cons (pe_glob (v := .ref cs.C_Trap) (by rfl) T.g_Trap rfl) pa_nil)))))))) (pss_one (ps_ret pe_bl)) pss_nil)
      (pss_one (ps_ret (pe_and (pe_callB call_isiS (by rfl) T.m_isinstance (by decide +kernel) (pa_cons (pe_xf T.e_UnknownInstruction.xf T.no_UnknownInstruction_name hz hf (pv 3)) (pa_cons (pe_bltn (v := .ty "str") (u := .type "str") (by rfl) T.m_str (by decide +kernel) rfl) pa_nil))) (pe_and (pe_cmpR op_eq (pe_xf T.e_UnknownInstruction.xf T.no_UnknownInstruction_name hz hf (pv 3)) (pv 0) (by first | rfl | exact nomark _)) (pe_one (pe_callB (call_isX hz hf T.e_UnknownInstruction) (by rfl) T.m_isinstance (by decide +kernel) (pa_cons (pv 3) (pa_cons (pe_bltn (v := .ty "ValueError") (u := .type "ValueError") (by rfl) T.m_ValueError PyProof.Rows.Boot.«ValueError» rfl) pa_nil)))))))))))
      (pss_one (ps_ret pe_bl))), ?_⟩
    have hzS : z.length ≤ sizeLine := small64 (by omega)
    cases b with
    | true =>
      walk_at "go"
      intro d Hf s1 hd
      refine ⟨true, T.exm_UnknownInstruction_HostError, fun _ ea hea => ?_, fun z => Bool.noConfusion z⟩
      walk_at "go"
      refine ⟨_, _, true, d, _, rfl, rfl, rfl, hd, rfl, fun u hu => hu, T.kit_UnknownInstruction_UnknownInstruction, ?_⟩
      walk_at "go"
      refine ⟨_, _, false, d, _, rfl, rfl, rfl, hd, rfl, fun u hu => hu, T.kit_UnknownInstruction_BadValues, ?_⟩
      walk_at "go"
      refine ⟨_, _, false, d, _, rfl, rfl, rfl, hd, rfl, fun u hu => hu, T.kit_UnknownInstruction_Trap, ?_⟩
      walk_at "go"
      refine ⟨d, _, _, rfl, hd, rfl, ?_⟩
      walk_at "go"
      refine ⟨d, _, _, rfl, hd, rfl, ?_⟩
      walk_at "go"
      refine ifS rfl ?_
      walk_at "go"
      refine ⟨_, _, true, d, _, rfl, rfl, rfl, hd, rfl, fun u hu => hu, T.kit_UnknownInstruction_VE, ?_⟩
      walk_at "go"
      exact q _ s1
    | false =>
      walk_at "go"
      refine ⟨fun e => (by rw [hk] at e; cases e), fun _ d Hf s1 hd => ?_⟩
      refine ⟨true, T.exm_UnknownInstruction_HostError, fun _ ea hea => ?_, fun z => Bool.noConfusion z⟩
      walk_at "go"
      refine ⟨_, _, true, d, _, rfl, rfl, rfl, hd, rfl, fun u hu => hu, T.kit_UnknownInstruction_UnknownInstruction, ?_⟩
      walk_at "go"
      refine ⟨_, _, false, d, _, rfl, rfl, rfl, hd, rfl, fun u hu => hu, T.kit_UnknownInstruction_BadValues, ?_⟩
      walk_at "go"
      refine ⟨_, _, false, d, _, rfl, rfl, rfl, hd, rfl, fun u hu => hu, T.kit_UnknownInstruction_Trap, ?_⟩
      walk_at "go"
      refine ⟨d, _, _, rfl, hd, rfl, ?_⟩
      walk_at "go"
      refine ⟨d, _, _, rfl, hd, rfl, ?_⟩
      walk_at "go"
      refine ifS rfl ?_
      walk_at "go"
      refine ⟨_, _, true, d, _, rfl, rfl, rfl, hd, rfl, fun u hu => hu, T.kit_UnknownInstruction_VE, ?_⟩
      walk_at "go"
      exact q _ s1
def sp_lawK (K : PySem.W.Frag) : Sp := fun vs H Q _ => ∃ (a : Addr) (ns : List Int), vs = [.ref a] ∧ SqL K H a (ns.map V.int) ∧ ns.length ≤ 63 ∧ ∀ H', Q (.bl true) H'
abbrev sp_law (K : PySem.W.Frag) (_ : Cs) : Sp := sp_lawK K
def str10 : List Str := ["", "i32.extend32_s", "i32", "add", "f32.add", "i32.div", "i32.const", "i64.const", "i32.load", "i64.store8"]
def str9 : List Str := ["i64.load32_u", "nop", "drop", "select", "local.get", "global.set", "block", "br_if", "memory.size"]
theorem names_perm : v_INSTRUCTIONS.Perm namesL := by decide +kernel
theorem names_len : namesL.length = 66 := by decide +kernel
theorem names_short : ∀ z ∈ namesL, z.length ≤ 30 := by decide +kernel
theorem names_known : ∀ z ∈ namesL, Known z = true := by decide +kernel
theorem names_ok : namesL.all PyData.strOk = true := by decide +kernel
theorem sorted_ok {l : List Str} (p : l.Perm namesL) : l.all PyData.strOk = true := List.all_eq_true.mpr fun z hz => List.all_eq_true.mp names_ok z (p.mem_iff.mp hz)
theorem c_law {f : Addr} {fd : FuncData} (D : L2.Fun K "law" "law" s_law f fd) (T : Tp w K mg cs) (c__law_names : Cal P w K mg base CX0 1 "_law_names" (sp__law_names K cs)) (c__law_cell : Cal P w K mg base CX0 1 "_law_cell" (sp__law_cell K cs)) (c__law_right : Cal P w K mg base CX0 4 "_law_right" (sp__law_right K cs)) (c__law_edited : Cal P w K mg base CX0 2 "_law_edited" (sp__law_edited K cs)) (c__law_params : Cal P w K mg base CX0 1 "_law_params" (sp__law_params K cs)) (c__law_refused : Cal P w K mg base CX0 5 "_law_refused" (sp__law_refused K cs)) : FnOk P w K mg base CX0 6 f fd ["script"] (sp_law K cs) := by
  refine D.ok sc_law (fun vs H Q E h => ?_) (fun cdv A outer s H vs Q E hr h => ?_)
  · obtain ⟨a, ns, rfl, _⟩ := h; rfl
  · obtain ⟨a, ns, rfl, hS, hlen, q⟩ := h
    refine ⟨_, (pss_cons (ps_set (i := 1) sc_law.nd rfl (by first | exact Or.inl rfl | exact Or.inr rfl) (pe_c0 c__law_names hr (by decide) (by rfl)))
      (pss_cons (ps_if (PW.pt (pw_or (pt_not (pt_val (pe_callB call_isi (by rfl) T.m_isinstance (by decide +kernel) (pa_cons (pe_glob (v := .ref cs.t_INSTRUCTIONS) (by rfl) T.g_INSTRUCTIONS rfl) (pa_cons (pe_bltn (v := .ty "tuple") (u := .type "tuple") (by rfl) T.m_tuple (by decide +kernel) rfl) pa_nil))))) (pw_or1 (pt_cmpR op_ne (pe_callB call_len_seq (by rfl) T.m_len PySem.boot_len (pa_cons (pe_glob (v := .ref cs.t_INSTRUCTIONS) (by rfl) T.g_INSTRUCTIONS rfl) pa_nil)) pe_int (by first | rfl | exact nomark _))))) (pss_one (ps_ret pe_bl)) pss_nil)
      (pss_cons (ps_for PassesOwn.never rfl (pi_tup (pe_glob (v := .ref cs.t_INSTRUCTIONS) (by rfl) T.g_INSTRUCTIONS rfl)) (pg_name (i := 2) sc_law.nd rfl (by first | exact Or.inl rfl | exact Or.inr rfl)) (pss_one (ps_if (pt_not (pt_val (pe_callB call_isi (by rfl) T.m_isinstance (by decide +kernel) (pa_cons (pv 2) (pa_cons (pe_bltn (v := .ty "str") (u := .type "str") (by rfl) T.m_str (by decide +kernel) rfl) pa_nil))))) (pss_one (ps_ret pe_bl)) pss_nil)))
      (pss_cons (ps_if (pt_cmpR (op_neD (hu64 hr)) (pe_callB cr_sortedSA (by rfl) T.m_sorted (by decide +kernel) (pa_cons (pe_callTy call_list_of (by rfl) T.m_list (by decide +kernel) (pa_cons (pe_glob (v := .ref cs.t_INSTRUCTIONS) (by rfl) T.g_INSTRUCTIONS rfl) pa_nil)) pa_nil)) (pe_callB cr_sortedSA (by rfl) T.m_sorted (by decide +kernel) (pa_cons (pv 1) pa_nil)) (by first | rfl | exact nomark _)) (pss_one (ps_ret pe_bl)) pss_nil)
      (pss_cons (ps_for PassesOwn.never rfl (pi_list (pv 1)) (pg_name (i := 2) sc_law.nd rfl (by first | exact Or.inl rfl | exact Or.inr rfl)) (pss_one (ps_if (pt_not (pt_val (pe_c c__law_right hr (by decide) (by rfl) (pa_cons (pv 2) pa_nil)))) (pss_one (ps_ret pe_bl)) pss_nil)))
      (pss_cons (ps_set (i := 3) sc_law.nd rfl (by first | exact Or.inl rfl | exact Or.inr rfl) (pe_lst (pa_cons pe_str (pa_cons pe_str (pa_cons pe_str (pa_cons pe_str (pa_cons pe_str (pa_cons pe_str (pa_cons pe_str (pa_cons pe_str (pa_cons pe_str (pa_cons pe_str pa_nil))))))))))))
      (pss_cons (ps_set (i := 3) sc_law.nd rfl (by first | exact Or.inl rfl | exact Or.inr rfl) (pe_op op_cat (pv 3) (pe_lst (pa_cons pe_str (pa_cons pe_str (pa_cons pe_str (pa_cons pe_str (pa_cons pe_str (pa_cons pe_str (pa_cons pe_str (pa_cons pe_str (pa_cons pe_str pa_nil))))))))))))
      (pss_cons (ps_for PassesOwn.never rfl (pi_range1 (by rfl) T.m_range (pa_cons (pe_callB (call_min2 rfl) (by rfl) T.m_min (by decide +kernel) (pa_cons (pe_callB call_len_seq (by rfl) T.m_len PySem.boot_len (pa_cons (pv 0) pa_nil)) (pa_cons pe_int pa_nil))) pa_nil)) (pg_name (i := 4) sc_law.nd rfl (by first | exact Or.inl rfl | exact Or.inr rfl)) (pss_cons (ps_set (i := 5) sc_law.nd rfl (by first | exact Or.inl rfl | exact Or.inr rfl) (pe_c c__law_cell hr (by decide) (by rfl) (pa_cons (pv 0) (pa_cons (pv 4) pa_nil))))
      (pss_one (ps_expr (pe_bm PySem.F.plainAttrs_list PySem.F.slot_list_append PySem.F.type_list_append mt_append (pv 3) (pa_cons (pe_c c__law_edited hr (by decide) (by rfl) (pa_cons (pe_ix ix_list (pv 1) (pe_op op_mod (pe_op op_fdiv (pe_callTy call_int1 (by rfl) T.m_int (by decide +kernel) (pa_cons (pv 5) pa_nil)) pe_int) pe_int) (fun _ _ => rfl)) (pa_cons (pe_op op_add (pe_op op_fdiv (pv 5) pe_int) (pv 4)) pa_nil))) pa_nil))))))
      (pss_cons (ps_for PassesOwn.never rfl (pi_list (pv 3)) (pg_name (i := 2) sc_law.nd rfl (by first | exact Or.inl rfl | exact Or.inr rfl)) (pss_one (ps_if (pt_cmpR op_isN (pe_c c__law_params hr (by decide) (by rfl) (pa_cons (pv 2) pa_nil)) pe_non (by first | rfl | exact nomark _)) (pss_one (ps_if (PW.pt (pw_or (pt_not (pt_val (pe_c c__law_refused hr (by decide) (by rfl) (pa_cons (pv 2) (pa_cons (pe_tup pa_nil) (pa_cons pe_bl pa_nil)))))) (pw_or1 (pt_not (pt_val (pe_c c__law_refused hr (by decide) (by rfl) (pa_cons (pv 2) (pa_cons (pe_tup (pa_cons (pe_op op_shl1 pe_int pe_int) (pa_cons pe_int pa_nil))) (pa_cons pe_bl pa_nil))))))))) (pss_one (ps_ret pe_bl)) pss_nil)) (pss_one (ps_if (pt_not (pt_val (pe_c c__law_right hr (by decide) (by rfl) (pa_cons (pv 2) pa_nil)))) (pss_one (ps_ret pe_bl)) pss_nil)))))
      (pss_one (ps_ret pe_bl))))))))))), ?_⟩
    walk_at "go"
    intro p1 H1 s1 h1 k1
    obtain ⟨oI, itsI, nI, lI, cI, dI, zI, vI⟩ := T.d_INSTRUCTIONS.ex
    have hI : ∀ H, SqT K H cs.t_INSTRUCTIONS (v_INSTRUCTIONS.map V.str) := fun H => T.d_INSTRUCTIONS.sq
    walk_at "go"
    refine ⟨_, .ty "tuple", _, _, true, rfl, .ty _, .kTuple lI cI, kit_ty (by decide +kernel), ?_⟩
    walk_at "go"
    refine ⟨_, _, rfl, .inr (hI _), rfl, _, rfl, ifNe (by decide +kernel) ?_⟩
    refine ⟨_, rfl, ⟨_, hI _⟩, ?_⟩
    refine for_tupE (K := K) (xs := v_INSTRUCTIONS.map V.str) (fun i σ H2 => H2 = H1 ∧ ∃ o, σ = [some (.ref a), some (.ref p1), o, none, none, none]) ⟨rfl, _, rfl⟩ (fun i σ H2 _ _ => hI _) ?_ ?_
    · rintro j v _ _ hj ⟨rfl, o, rfl⟩
      obtain ⟨z, hz, rfl⟩ := List.mem_map.mp (List.mem_of_getElem? hj)
      walk_at "go"
      exact ⟨_, rfl⟩
    rintro _ G1 ⟨rfl, o, rfl⟩
    refine ⟨_, _, rfl, .inr (hI _), fun p2 h2 => ?_⟩
    refine ⟨p2, v_INSTRUCTIONS, rfl, SqL.new, small64 (by decide +kernel), fun ys p3 pm so h3 => ?_⟩
    have s3 := (Same.new (o := .lst (v_INSTRUCTIONS.map V.str)) h2).trans (Same.new (o := .lst (ys.map V.str)) h3)
    have k3 : upd (upd G1 p2 (.lst (v_INSTRUCTIONS.map V.str))) p3 (.lst (ys.map V.str)) p3 = some (.lst (ys.map V.str)) := upd_same
    generalize upd (upd G1 p2 (.lst (v_INSTRUCTIONS.map V.str))) p3 (.lst (ys.map V.str)) = H3 at s3 k3 ⊢
    refine ⟨_, rfl, p1, namesL, rfl, SqL.of (s3 _ _ k1), small64 (by decide +kernel), fun ys2 p4 pm2 so2 h4 => ?_⟩
    obtain rfl : ys = ys2 := sorted_same (pm.trans (names_perm.trans pm2.symm)) so so2
    have s4 := Same.new (o := .lst (ys.map V.str)) h4
    have k4 : upd H3 p4 (.lst (ys.map V.str)) p4 = some (.lst (ys.map V.str)) := upd_same
    generalize upd H3 p4 (.lst (ys.map V.str)) = H4 at s4 k4 ⊢
    refine neD_same (dp_strs (SqL.of (s4 _ _ k3))) (dp_strs (SqL.of k4)) (shaped_strs ys (sorted_ok pm2)) ?_
    have s14 := s1.trans (s3.trans s4)
    have k14 := (s3.trans s4) _ _ k1
    clear s3 s4 k3 k4 h2 h3 h4 k1 s1 h1
    walk_at "go"
    refine ⟨⟨_, SqL.of k14⟩, ?_⟩
    refine for_listD (K := K) (a := p1) (xs := namesL.map V.str) (fun j σ H5 => Same H4 H5 ∧ ∃ o, σ = [some (.ref a), some (.ref p1), o, none, none, none]) ⟨Same.refl _, _, rfl⟩ (fun j σ H5 _ h => SqL.of (h.1 _ _ k14)) ?_ ?_
    · rintro j v _ H5 hj ⟨s5, o, rfl⟩
      obtain ⟨z, hz, rfl⟩ := List.mem_map.mp (List.mem_of_getElem? hj)
      walk_at "go"
      refine ⟨Nat.le_trans (names_short z hz) (by decide), names_known z hz, fun H6 s6 => ?_⟩
      walk_at "go"
      exact ⟨s5.trans s6, _, rfl⟩
    rintro _ H5 ⟨s5, o, rfl⟩
    have s15 := s14.trans s5
    have k15 := s5 _ _ k14
    clear s14 k14 s5
    walk_at "go"
    intro p5 h5
    generalize e5 : upd H5 p5 _ = H6
    obtain ⟨s6, k6⟩ := newE (zs := str10) h5 e5 rfl
    walk_at "go"
    intro p6 h6
    generalize e6 : upd H6 p6 _ = H7
    obtain ⟨s7, k7⟩ := newE (zs := str9) h6 e6 rfl
    refine catE (s7 _ _ k6) k7 (by decide) (fun p7 H8 s8 h8 k8 => ?_)
    have s17 := s15.trans (s6.trans s7)
    have k17 := (s6.trans s7) _ _ k15
    have hS7 := s17.seq hS
    have hS8 := s8.seq hS7
    clear s6 s7 k6 k7 e5 e6 h5 h6 s15 k15
    walk_at "go"
    obtain ⟨n, en, hn⟩ : ∃ n : Nat, (if 63 < (((ns.map V.int).length : Nat) : Int) then 63 else (((ns.map V.int).length : Nat) : Int)).toNat = n ∧ n ≤ 100 := ⟨_, rfl, by split <;> omega⟩
    rw [en]
    refine for_rangeD (lo := 0) (n := n) (fun i σ H2 => Same H7 H2 ∧ (∃ zs : List Str, H2 p7 = some (.lst (zs.map V.str)) ∧ zs.length = 19 + i ∧ ∀ z ∈ zs, z.length ≤ 1000) ∧ ∃ o2 o4 o5, σ = [some (.ref a), some (.ref p1), o2, some (.ref p7), o4, o5]) ⟨s8, ⟨_, k8, rfl, by decide +kernel⟩, _, _, _, rfl⟩ ?_ ?_
    · rintro i _ H2 hi ⟨s2, ⟨zs, kz, lz, bz⟩, o2, o4, o5, rfl⟩
      rw [Int.zero_add]
      have hS2 := s2.seq hS7
      have k12 := s2 _ _ k17
      have k12L : SqL K H2 p1 (namesL.map V.str) := SqL.of k12
      walk_at "go"
      refine ⟨a, ns, i, rfl, hS2, ?_⟩
      generalize ns.getD i 0 = cell
      obtain ⟨j, ej, hj⟩ : ∃ j : Nat, cell / 7 % 66 = (j : Int) ∧ j < namesL.length := ⟨(cell / 7 % 66).toNat, by omega, by rw [names_len]; omega⟩
      obtain ⟨z, hz, hat⟩ := at_strs hj
      have hzl : z.length ≤ 100 := Nat.le_trans (names_short z hz) (by decide)
      refine ⟨_, rfl, .inl ⟨rfl, _, SqL.of kz⟩, ?_⟩
      walk_at "go"
      show rIxL K (.ref p1) (.int (cell / 7 % 66)) H2 _
      rw [ej]
      refine ⟨_, _, j, _, rfl, rfl, k12L, hat, ?_⟩
      walk_at "go"
      intro z' hz'
      refine ⟨_, _, _, rfl, rfl, kz, (by rw [List.length_map]; exact small64' (by omega)), ?_⟩
      refine ⟨fun b o e => ?_, ⟨zs ++ [z'], by rw [upd_same, List.map_append]; rfl, by rw [List.length_append, lz]; rfl, fun y hy => ?_⟩, _, _, _, rfl⟩
      · rw [upd_ne (ne_of_none e h8)]; exact s2 _ _ e
      · rcases List.mem_append.mp hy with hy | hy
        · exact bz y hy
        · rw [List.mem_singleton.mp hy]; omega
    rintro _ H2 ⟨s2, ⟨zs, kz, lz, bz⟩, o2, o4, o5, rfl⟩
    have sA := s17.trans s2
    have k12 := s2 _ _ k17
    clear s2 s8 k8 h8 s17 k17 hS7 hS8
    walk_at "go"
    refine ⟨⟨_, SqL.of kz⟩, ?_⟩
    refine for_listD (K := K) (a := p7) (xs := zs.map V.str) (fun j σ H5 => Same H2 H5 ∧ ∃ o, σ = [some (.ref a), some (.ref p1), o, some (.ref p7), o4, o5]) ⟨Same.refl _, _, rfl⟩ (fun j σ H5 _ h => SqL.of (h.1 _ _ kz)) ?_ ?_
    · rintro j v _ H5 hj ⟨s5, o, rfl⟩
      obtain ⟨z, hz, rfl⟩ := List.mem_map.mp (List.mem_of_getElem? hj)
      have hzl := bz z hz
      walk_at "go"
      cases hk : Known z with
      | true =>
        refine par_known hk (fun t H6 s6 ht => ?_)
        walk_at "go"
        intro H7 s7
        walk_at "go"
        exact ⟨s5.trans (s6.trans s7), _, rfl⟩
      | false =>
        refine par_unknown hk (fun H6 s6 => ?_)
        walk_at "go"
        intro t ht
        walk_at "go"
        refine ⟨z, t, false, rfl, hzl, hk, fun H7 s7 => ?_⟩
        walk_at "go"
        intro t2 ht2
        walk_at "go"
        refine ⟨z, t2, true, rfl, hzl, hk, fun H8 s8 => ?_⟩
        walk_at "go"
        exact ⟨s5.trans (s6.trans ((Same.new ht).trans (s7.trans ((Same.new ht2).trans s8)))), _, rfl⟩
    rintro _ H5 ⟨s5, o, rfl⟩
    walk_at "go"
    exact q _
end
theorem all_mk {l : PySem.W.OpenLaw} {w : World} {K : PySem.W.Frag} {h : Heap} {mg : Str → Option Value} {fa f0 f1 f2 f3 f4 f5 f6 f7 f8 f9 f10 f11 f12 f13 f14 f15 f16 f17 f18 f19 : Addr} (X : K.In h) (G : h.Ns mainGlobals mg) (hfa : mg "law" = some (.ref fa))
    {od0 an0 od1 an1 od2 an2 od3 an3 od4 an4 od5 an5 od6 an6 od7 an7 od8 an8 od9 an9 od10 an10 od11 an11 od12 an12 od13 an13 od14 an14 od15 an15 od16 an16 od17 an17 od18 an18 od19 an19 : Option Addr} {sl0 sl1 sl2 sl3 sl4 sl5 sl6 sl7 sl8 sl9 sl10 sl11 sl12 sl13 sl14 sl15 sl16 sl17 sl18 sl19 : Array (Option Value)} {oc0 kV0 dc0 pm0 cd0 ct0 oc1 kV1 dc1 pm1 cd1 ct1 oc2 kV2 dc2 pm2 cd2 ct2 oc3 kV3 dc3 pm3 cd3 ct3 oc4 kV4 dc4 pm4 cd4 ct4 oc5 kV5 dc5 pm5 cd5 ct5 oc6 kV6 dc6 pm6 cd6 ct6 oc7 kV7 dc7 pm7 cd7 ct7 oc8 kV8 dc8 pm8 cd8 ct8 oc9 kV9 dc9 pm9 cd9 ct9 oc10 kV10 dc10 pm10 cd10 ct10 oc11 kV11 dc11 pm11 cd11 ct11 oc12 kV12 dc12 pm12 cd12 ct12 oc13 kV13 dc13 pm13 cd13 ct13 oc14 kV14 dc14 pm14 cd14 ct14 oc15 kV15 dc15 pm15 cd15 ct15 oc16 kV16 dc16 pm16 cd16 ct16 oc17 kV17 dc17 pm17 cd17 ct17 oc18 kV18 dc18 pm18 cd18 ct18 oc19 kV19 dc19 pm19 cd19 ct19 : Value}
    (a0 : PySem.W.nsIn K mainGlobals "is_zero" = some (some (.ref f0))) (l0 : K.lookup f0 = some ⟨oc0, od0, .func (PySem.W.fnOf "is_zero" "is_zero" (defArgs s_is_zero) (defBody s_is_zero) (defScope s_is_zero) .none kV0 dc0 pm0 an0 cd0 ct0), sl0⟩) (c0 : PySem.W.codeIn K cd0 "is_zero" = true) (k0 : PySem.W.keepIn K (.ref f0) = true)
    (a1 : PySem.W.nsIn K mainGlobals "leading_zeros" = some (some (.ref f1))) (l1 : K.lookup f1 = some ⟨oc1, od1, .func (PySem.W.fnOf "leading_zeros" "leading_zeros" (defArgs s_leading_zeros) (defBody s_leading_zeros) (defScope s_leading_zeros) .none kV1 dc1 pm1 an1 cd1 ct1), sl1⟩) (c1 : PySem.W.codeIn K cd1 "leading_zeros" = true) (k1 : PySem.W.keepIn K (.ref f1) = true)
    (a2 : PySem.W.nsIn K mainGlobals "trailing_zeros" = some (some (.ref f2))) (l2 : K.lookup f2 = some ⟨oc2, od2, .func (PySem.W.fnOf "trailing_zeros" "trailing_zeros" (defArgs s_trailing_zeros) (defBody s_trailing_zeros) (defScope s_trailing_zeros) .none kV2 dc2 pm2 an2 cd2 ct2), sl2⟩) (c2 : PySem.W.codeIn K cd2 "trailing_zeros" = true) (k2 : PySem.W.keepIn K (.ref f2) = true)
    (a3 : PySem.W.nsIn K mainGlobals "ones" = some (some (.ref f3))) (l3 : K.lookup f3 = some ⟨oc3, od3, .func (PySem.W.fnOf "ones" "ones" (defArgs s_ones) (defBody s_ones) (defScope s_ones) .none kV3 dc3 pm3 an3 cd3 ct3), sl3⟩) (c3 : PySem.W.codeIn K cd3 "ones" = true) (k3 : PySem.W.keepIn K (.ref f3) = true)
    (a4 : PySem.W.nsIn K mainGlobals "extend_8" = some (some (.ref f4))) (l4 : K.lookup f4 = some ⟨oc4, od4, .func (PySem.W.fnOf "extend_8" "extend_8" (defArgs s_extend_8) (defBody s_extend_8) (defScope s_extend_8) .none kV4 dc4 pm4 an4 cd4 ct4), sl4⟩) (c4 : PySem.W.codeIn K cd4 "extend_8" = true) (k4 : PySem.W.keepIn K (.ref f4) = true)
    (a5 : PySem.W.nsIn K mainGlobals "extend_16" = some (some (.ref f5))) (l5 : K.lookup f5 = some ⟨oc5, od5, .func (PySem.W.fnOf "extend_16" "extend_16" (defArgs s_extend_16) (defBody s_extend_16) (defScope s_extend_16) .none kV5 dc5 pm5 an5 cd5 ct5), sl5⟩) (c5 : PySem.W.codeIn K cd5 "extend_16" = true) (k5 : PySem.W.keepIn K (.ref f5) = true)
    (a6 : PySem.W.nsIn K mainGlobals "extend_32" = some (some (.ref f6))) (l6 : K.lookup f6 = some ⟨oc6, od6, .func (PySem.W.fnOf "extend_32" "extend_32" (defArgs s_extend_32) (defBody s_extend_32) (defScope s_extend_32) .none kV6 dc6 pm6 an6 cd6 ct6), sl6⟩) (c6 : PySem.W.codeIn K cd6 "extend_32" = true) (k6 : PySem.W.keepIn K (.ref f6) = true)
    (a7 : PySem.W.nsIn K mainGlobals "unchanged" = some (some (.ref f7))) (l7 : K.lookup f7 = some ⟨oc7, od7, .func (PySem.W.fnOf "unchanged" "unchanged" (defArgs s_unchanged) (defBody s_unchanged) (defScope s_unchanged) .none kV7 dc7 pm7 an7 cd7 ct7), sl7⟩) (c7 : PySem.W.codeIn K cd7 "unchanged" = true) (k7 : PySem.W.keepIn K (.ref f7) = true)
    (a8 : PySem.W.nsIn K mainGlobals "signature_of" = some (some (.ref f8))) (l8 : K.lookup f8 = some ⟨oc8, od8, .func (PySem.W.fnOf "signature_of" "signature_of" (defArgs s_signature_of) (defBody s_signature_of) (defScope s_signature_of) .none kV8 dc8 pm8 an8 cd8 ct8), sl8⟩) (c8 : PySem.W.codeIn K cd8 "signature_of" = true) (k8 : PySem.W.keepIn K (.ref f8) = true)
    (a9 : PySem.W.nsIn K mainGlobals "calculate" = some (some (.ref f9))) (l9 : K.lookup f9 = some ⟨oc9, od9, .func (PySem.W.fnOf "calculate" "calculate" (defArgs s_calculate) (defBody s_calculate) (defScope s_calculate) .none kV9 dc9 pm9 an9 cd9 ct9), sl9⟩) (c9 : PySem.W.codeIn K cd9 "calculate" = true) (k9 : PySem.W.keepIn K (.ref f9) = true)
    (a10 : PySem.W.nsIn K mainGlobals "_law_cell" = some (some (.ref f10))) (l10 : K.lookup f10 = some ⟨oc10, od10, .func (PySem.W.fnOf "_law_cell" "_law_cell" (defArgs s__law_cell) (defBody s__law_cell) (defScope s__law_cell) .none kV10 dc10 pm10 an10 cd10 ct10), sl10⟩) (c10 : PySem.W.codeIn K cd10 "_law_cell" = true) (k10 : PySem.W.keepIn K (.ref f10) = true)
    (a11 : PySem.W.nsIn K mainGlobals "_law_params" = some (some (.ref f11))) (l11 : K.lookup f11 = some ⟨oc11, od11, .func (PySem.W.fnOf "_law_params" "_law_params" (defArgs s__law_params) (defBody s__law_params) (defScope s__law_params) .none kV11 dc11 pm11 an11 cd11 ct11), sl11⟩) (c11 : PySem.W.codeIn K cd11 "_law_params" = true) (k11 : PySem.W.keepIn K (.ref f11) = true)
    (a12 : PySem.W.nsIn K mainGlobals "_law_names" = some (some (.ref f12))) (l12 : K.lookup f12 = some ⟨oc12, od12, .func (PySem.W.fnOf "_law_names" "_law_names" (defArgs s__law_names) (defBody s__law_names) (defScope s__law_names) .none kV12 dc12 pm12 an12 cd12 ct12), sl12⟩) (c12 : PySem.W.codeIn K cd12 "_law_names" = true) (k12 : PySem.W.keepIn K (.ref f12) = true)
    (a13 : PySem.W.nsIn K mainGlobals "_law_char" = some (some (.ref f13))) (l13 : K.lookup f13 = some ⟨oc13, od13, .func (PySem.W.fnOf "_law_char" "_law_char" (defArgs s__law_char) (defBody s__law_char) (defScope s__law_char) .none kV13 dc13 pm13 an13 cd13 ct13), sl13⟩) (c13 : PySem.W.codeIn K cd13 "_law_char" = true) (k13 : PySem.W.keepIn K (.ref f13) = true)
    (a14 : PySem.W.nsIn K mainGlobals "_law_edited" = some (some (.ref f14))) (l14 : K.lookup f14 = some ⟨oc14, od14, .func (PySem.W.fnOf "_law_edited" "_law_edited" (defArgs s__law_edited) (defBody s__law_edited) (defScope s__law_edited) .none kV14 dc14 pm14 an14 cd14 ct14), sl14⟩) (c14 : PySem.W.codeIn K cd14 "_law_edited" = true) (k14 : PySem.W.keepIn K (.ref f14) = true)
    (a15 : PySem.W.nsIn K mainGlobals "_law_results" = some (some (.ref f15))) (l15 : K.lookup f15 = some ⟨oc15, od15, .func (PySem.W.fnOf "_law_results" "_law_results" (defArgs s__law_results) (defBody s__law_results) (defScope s__law_results) .none kV15 dc15 pm15 an15 cd15 ct15), sl15⟩) (c15 : PySem.W.codeIn K cd15 "_law_results" = true) (k15 : PySem.W.keepIn K (.ref f15) = true)
    (a16 : PySem.W.nsIn K mainGlobals "_law_kinds" = some (some (.ref f16))) (l16 : K.lookup f16 = some ⟨oc16, od16, .func (PySem.W.fnOf "_law_kinds" "_law_kinds" (defArgs s__law_kinds) (defBody s__law_kinds) (defScope s__law_kinds) .none kV16 dc16 pm16 an16 cd16 ct16), sl16⟩) (c16 : PySem.W.codeIn K cd16 "_law_kinds" = true) (k16 : PySem.W.keepIn K (.ref f16) = true)
    (a17 : PySem.W.nsIn K mainGlobals "_law_right" = some (some (.ref f17))) (l17 : K.lookup f17 = some ⟨oc17, od17, .func (PySem.W.fnOf "_law_right" "_law_right" (defArgs s__law_right) (defBody s__law_right) (defScope s__law_right) .none kV17 dc17 pm17 an17 cd17 ct17), sl17⟩) (c17 : PySem.W.codeIn K cd17 "_law_right" = true) (k17 : PySem.W.keepIn K (.ref f17) = true)
    (a18 : PySem.W.nsIn K mainGlobals "_law_refused" = some (some (.ref f18))) (l18 : K.lookup f18 = some ⟨oc18, od18, .func (PySem.W.fnOf "_law_refused" "_law_refused" (defArgs s__law_refused) (defBody s__law_refused) (defScope s__law_refused) .none kV18 dc18 pm18 an18 cd18 ct18), sl18⟩) (c18 : PySem.W.codeIn K cd18 "_law_refused" = true) (k18 : PySem.W.keepIn K (.ref f18) = true)
    (a19 : PySem.W.nsIn K mainGlobals "law" = some (some (.ref f19))) (l19 : K.lookup f19 = some ⟨oc19, od19, .func (PySem.W.fnOf "law" "law" (defArgs s_law) (defBody s_law) (defScope s_law) .none kV19 dc19 pm19 an19 cd19 ct19), sl19⟩) (c19 : PySem.W.codeIn K cd19 "law" = true) (k19 : PySem.W.keepIn K (.ref f19) = true)
    (z_ValueError : PySem.W.nsIn K mainGlobals "ValueError" = some none)
    (z_int : PySem.W.nsIn K mainGlobals "int" = some none)
    (z_isinstance : PySem.W.nsIn K mainGlobals "isinstance" = some none)
    (z_len : PySem.W.nsIn K mainGlobals "len" = some none)
    (z_list : PySem.W.nsIn K mainGlobals "list" = some none)
    (z_min : PySem.W.nsIn K mainGlobals "min" = some none)
    (z_range : PySem.W.nsIn K mainGlobals "range" = some none)
    (z_sorted : PySem.W.nsIn K mainGlobals "sorted" = some none)
    (z_str : PySem.W.nsIn K mainGlobals "str" = some none)
    (z_tuple : PySem.W.nsIn K mainGlobals "tuple" = some none)
    {cC_HostError cC_Trap cI_Trap cC_UnknownInstruction cI_UnknownInstruction cC_BadValues : Addr}
    (sp0 : PySem.W.specialIn K (.builtin "object.__class__") "__get__" = some (some (.builtin "getset_descriptor.__get__"))) (tk0 : PySem.W.takesIn K (.builtin "object.__class__") = some true)
    (aC_HostError : PySem.W.nsIn K mainGlobals "HostError" = some (some (.ref cC_HostError)))
    (aC_Trap : PySem.W.nsIn K mainGlobals "Trap" = some (some (.ref cC_Trap)))
    (aC_UnknownInstruction : PySem.W.nsIn K mainGlobals "UnknownInstruction" = some (some (.ref cC_UnknownInstruction)))
    (aC_BadValues : PySem.W.nsIn K mainGlobals "BadValues" = some (some (.ref cC_BadValues)))
    (ex_HostError : PySem.W.subIn K (.ref cC_HostError) (.type "BaseException") = some true)
    (ty_HostError : PySem.W.typeIn K (.ref cC_HostError) = some (.type "type"))
    (hd_HostError : PySem.W.hasDictIn K cC_HostError = true)
    (ex_Trap : PySem.W.subIn K (.ref cC_Trap) (.type "BaseException") = some true)
    (ty_Trap : PySem.W.typeIn K (.ref cC_Trap) = some (.type "type"))
    (hd_Trap : PySem.W.hasDictIn K cC_Trap = true)
    (ex_UnknownInstruction : PySem.W.subIn K (.ref cC_UnknownInstruction) (.type "BaseException") = some true)
    (ty_UnknownInstruction : PySem.W.typeIn K (.ref cC_UnknownInstruction) = some (.type "type"))
    (hd_UnknownInstruction : PySem.W.hasDictIn K cC_UnknownInstruction = true)
    (ex_BadValues : PySem.W.subIn K (.ref cC_BadValues) (.type "BaseException") = some true)
    (ty_BadValues : PySem.W.typeIn K (.ref cC_BadValues) = some (.type "type"))
    (hd_BadValues : PySem.W.hasDictIn K cC_BadValues = true)
    {nm_Trap qn_Trap : Str} {N_Trap : Addr} {bs_Trap : List Value} {sn_Trap : List Str} {sub_Trap : List Value} {ab_Trap : Bool} {col_Trap : Option Bool} {dd_Trap : Option Addr} {m0_Trap m1_Trap m2_Trap m3_Trap m5_Trap : Option Value}
    (xl_Trap : K.lookup cC_Trap = some (excClassObj nm_Trap qn_Trap cC_Trap N_Trap bs_Trap [.ref cC_HostError, .type "ValueError", .type "Exception", .type "BaseException", .type "object"] true sn_Trap sub_Trap ab_Trap col_Trap dd_Trap m0_Trap m1_Trap m2_Trap m3_Trap m5_Trap "ValueError.__new__"))
    (sa_Trap : PySem.W.findIn K (.ref cC_Trap) "__setattr__" = some (some (.builtin "object.__setattr__")))
    (ga_Trap : PySem.W.findIn K (.ref cC_Trap) "__getattribute__" = some (some (.builtin "BaseException.__getattribute__")))
    (gg_Trap : PySem.W.findIn K (.ref cC_Trap) "__getattr__" = some none)
    (ca_Trap : PySem.W.findIn K (.ref cC_Trap) "__class__" = some (some (.builtin "object.__class__")))
    (kp_Trap : PySem.W.keepIn K (.ref cC_Trap) = true)
    (mr_Trap : PySem.W.mroIn K cC_Trap (.type "object") = some true)
    {odI_Trap anI_Trap : Option Addr} {slI_Trap : Array (Option Value)} {ocI_Trap kVI_Trap dcI_Trap pmI_Trap cdI_Trap ctI_Trap : Value}
    (aI_Trap : PySem.W.findIn K (.ref cC_Trap) "__init__" = some (some (.ref cI_Trap))) (tI_Trap : PySem.W.typeIn K (.ref cI_Trap) = some (.type "function"))
    (lI_Trap : K.lookup cI_Trap = some ⟨ocI_Trap, odI_Trap, .func (PySem.W.fnOf "__init__" "Trap.__init__" (defArgs i_Trap) (defBody i_Trap) (defScope i_Trap) .none kVI_Trap dcI_Trap pmI_Trap anI_Trap cdI_Trap ctI_Trap), slI_Trap⟩) (cdo_Trap : PySem.W.codeIn K cdI_Trap "Trap.__init__" = true) (kI_Trap : PySem.W.keepIn K (.ref cI_Trap) = true)
    (no_Trap_reason : PySem.W.findIn K (.ref cC_Trap) "reason" = some none)
    (sub_Trap_HostError : PySem.W.subIn K (.ref cC_Trap) (.ref cC_HostError) = some true) (ne_Trap_HostError : (Value.ref cC_Trap == Value.ref cC_HostError) = false)
    (sub_Trap_Trap : PySem.W.subIn K (.ref cC_Trap) (.ref cC_Trap) = some true)
    (sub_Trap_UnknownInstruction : PySem.W.subIn K (.ref cC_Trap) (.ref cC_UnknownInstruction) = some false) (ne_Trap_UnknownInstruction : (Value.ref cC_Trap == Value.ref cC_UnknownInstruction) = false)
    (sub_Trap_BadValues : PySem.W.subIn K (.ref cC_Trap) (.ref cC_BadValues) = some false) (ne_Trap_BadValues : (Value.ref cC_Trap == Value.ref cC_BadValues) = false)
    (sub_Trap_VE : PySem.W.subIn K (.ref cC_Trap) (.type "ValueError") = some true)
    {nm_UnknownInstruction qn_UnknownInstruction : Str} {N_UnknownInstruction : Addr} {bs_UnknownInstruction : List Value} {sn_UnknownInstruction : List Str} {sub_UnknownInstruction : List Value} {ab_UnknownInstruction : Bool} {col_UnknownInstruction : Option Bool} {dd_UnknownInstruction : Option Addr} {m0_UnknownInstruction m1_UnknownInstruction m2_UnknownInstruction m3_UnknownInstruction m5_UnknownInstruction : Option Value}
    (xl_UnknownInstruction : K.lookup cC_UnknownInstruction = some (excClassObj nm_UnknownInstruction qn_UnknownInstruction cC_UnknownInstruction N_UnknownInstruction bs_UnknownInstruction [.ref cC_HostError, .type "ValueError", .type "Exception", .type "BaseException", .type "object"] true sn_UnknownInstruction sub_UnknownInstruction ab_UnknownInstruction col_UnknownInstruction dd_UnknownInstruction m0_UnknownInstruction m1_UnknownInstruction m2_UnknownInstruction m3_UnknownInstruction m5_UnknownInstruction "ValueError.__new__"))
    (sa_UnknownInstruction : PySem.W.findIn K (.ref cC_UnknownInstruction) "__setattr__" = some (some (.builtin "object.__setattr__")))
    (ga_UnknownInstruction : PySem.W.findIn K (.ref cC_UnknownInstruction) "__getattribute__" = some (some (.builtin "BaseException.__getattribute__")))
    (gg_UnknownInstruction : PySem.W.findIn K (.ref cC_UnknownInstruction) "__getattr__" = some none)
    (ca_UnknownInstruction : PySem.W.findIn K (.ref cC_UnknownInstruction) "__class__" = some (some (.builtin "object.__class__")))
    (kp_UnknownInstruction : PySem.W.keepIn K (.ref cC_UnknownInstruction) = true)
    (mr_UnknownInstruction : PySem.W.mroIn K cC_UnknownInstruction (.type "object") = some true)
    {odI_UnknownInstruction anI_UnknownInstruction : Option Addr} {slI_UnknownInstruction : Array (Option Value)} {ocI_UnknownInstruction kVI_UnknownInstruction dcI_UnknownInstruction pmI_UnknownInstruction cdI_UnknownInstruction ctI_UnknownInstruction : Value}
    (aI_UnknownInstruction : PySem.W.findIn K (.ref cC_UnknownInstruction) "__init__" = some (some (.ref cI_UnknownInstruction))) (tI_UnknownInstruction : PySem.W.typeIn K (.ref cI_UnknownInstruction) = some (.type "function"))
    (lI_UnknownInstruction : K.lookup cI_UnknownInstruction = some ⟨ocI_UnknownInstruction, odI_UnknownInstruction, .func (PySem.W.fnOf "__init__" "UnknownInstruction.__init__" (defArgs i_UnknownInstruction) (defBody i_UnknownInstruction) (defScope i_UnknownInstruction) .none kVI_UnknownInstruction dcI_UnknownInstruction pmI_UnknownInstruction anI_UnknownInstruction cdI_UnknownInstruction ctI_UnknownInstruction), slI_UnknownInstruction⟩) (cdo_UnknownInstruction : PySem.W.codeIn K cdI_UnknownInstruction "UnknownInstruction.__init__" = true) (kI_UnknownInstruction : PySem.W.keepIn K (.ref cI_UnknownInstruction) = true)
    (no_UnknownInstruction_name : PySem.W.findIn K (.ref cC_UnknownInstruction) "name" = some none)
    (sub_UnknownInstruction_HostError : PySem.W.subIn K (.ref cC_UnknownInstruction) (.ref cC_HostError) = some true) (ne_UnknownInstruction_HostError : (Value.ref cC_UnknownInstruction == Value.ref cC_HostError) = false)
    (sub_UnknownInstruction_Trap : PySem.W.subIn K (.ref cC_UnknownInstruction) (.ref cC_Trap) = some false) (ne_UnknownInstruction_Trap : (Value.ref cC_UnknownInstruction == Value.ref cC_Trap) = false)
    (sub_UnknownInstruction_UnknownInstruction : PySem.W.subIn K (.ref cC_UnknownInstruction) (.ref cC_UnknownInstruction) = some true)
    (sub_UnknownInstruction_BadValues : PySem.W.subIn K (.ref cC_UnknownInstruction) (.ref cC_BadValues) = some false) (ne_UnknownInstruction_BadValues : (Value.ref cC_UnknownInstruction == Value.ref cC_BadValues) = false)
    (sub_UnknownInstruction_VE : PySem.W.subIn K (.ref cC_UnknownInstruction) (.type "ValueError") = some true)
    (x0_BadValues : PySem.W.excIn K cC_BadValues [.type "ValueError", .type "Exception", .type "BaseException", .type "object"] "ValueError.__new__" = true)
    (ga_BadValues : PySem.W.findIn K (.ref cC_BadValues) "__getattribute__" = some (some (.builtin "BaseException.__getattribute__")))
    (gg_BadValues : PySem.W.findIn K (.ref cC_BadValues) "__getattr__" = some none)
    (ca_BadValues : PySem.W.findIn K (.ref cC_BadValues) "__class__" = some (some (.builtin "object.__class__")))
    (kp_BadValues : PySem.W.keepIn K (.ref cC_BadValues) = true)
    (mr_BadValues : PySem.W.mroIn K cC_BadValues (.type "object") = some true)
    (sub_BadValues_HostError : PySem.W.subIn K (.ref cC_BadValues) (.ref cC_HostError) = some true) (ne_BadValues_HostError : (Value.ref cC_BadValues == Value.ref cC_HostError) = false)
    (sub_BadValues_Trap : PySem.W.subIn K (.ref cC_BadValues) (.ref cC_Trap) = some false) (ne_BadValues_Trap : (Value.ref cC_BadValues == Value.ref cC_Trap) = false)
    (sub_BadValues_UnknownInstruction : PySem.W.subIn K (.ref cC_BadValues) (.ref cC_UnknownInstruction) = some false) (ne_BadValues_UnknownInstruction : (Value.ref cC_BadValues == Value.ref cC_UnknownInstruction) = false)
    (sub_BadValues_BadValues : PySem.W.subIn K (.ref cC_BadValues) (.ref cC_BadValues) = some true)
    (sub_BadValues_VE : PySem.W.subIn K (.ref cC_BadValues) (.type "ValueError") = some true)
    {ct_INSTRUCTIONS ct_CONVERTED_KINDS ct_COMPARISONS ct_ONE_OPERAND : Addr}
    (at_INSTRUCTIONS : PySem.W.nsIn K mainGlobals "INSTRUCTIONS" = some (some (.ref ct_INSTRUCTIONS)))
    {od_INSTRUCTIONS : Option Addr} {its_INSTRUCTIONS : Array Value} {n_INSTRUCTIONS : Nat} {sl_INSTRUCTIONS : Array (Option Value)} (lt_INSTRUCTIONS : K.lookup ct_INSTRUCTIONS = some ⟨.type "tuple", od_INSTRUCTIONS, .seq its_INSTRUCTIONS n_INSTRUCTIONS, sl_INSTRUCTIONS⟩) (zt_INSTRUCTIONS : its_INSTRUCTIONS.size ≤ sizeLine) (vt_INSTRUCTIONS : Vals (v_INSTRUCTIONS.map V.str) its_INSTRUCTIONS.toList)
    (at_CONVERTED_KINDS : PySem.W.nsIn K mainGlobals "CONVERTED_KINDS" = some (some (.ref ct_CONVERTED_KINDS)))
    {es_CONVERTED_KINDS : Array DictEntry} {n_CONVERTED_KINDS : Nat} (lt_CONVERTED_KINDS : K.lookup ct_CONVERTED_KINDS = some ⟨.type "dict", none, .dict es_CONVERTED_KINDS n_CONVERTED_KINDS, #[]⟩) (st_CONVERTED_KINDS : (ct_CONVERTED_KINDS == sysModules) = false)
    (at_COMPARISONS : PySem.W.nsIn K mainGlobals "COMPARISONS" = some (some (.ref ct_COMPARISONS)))
    {od_COMPARISONS : Option Addr} {its_COMPARISONS : Array Value} {n_COMPARISONS : Nat} {sl_COMPARISONS : Array (Option Value)} (lt_COMPARISONS : K.lookup ct_COMPARISONS = some ⟨.type "tuple", od_COMPARISONS, .seq its_COMPARISONS n_COMPARISONS, sl_COMPARISONS⟩) (zt_COMPARISONS : its_COMPARISONS.size ≤ sizeLine) (vt_COMPARISONS : Vals (v_COMPARISONS.map V.str) its_COMPARISONS.toList)
    (at_ONE_OPERAND : PySem.W.nsIn K mainGlobals "ONE_OPERAND" = some (some (.ref ct_ONE_OPERAND)))
    {es_ONE_OPERAND : Array DictEntry} {n_ONE_OPERAND : Nat} (lt_ONE_OPERAND : K.lookup ct_ONE_OPERAND = some ⟨.type "dict", none, .dict es_ONE_OPERAND n_ONE_OPERAND, #[]⟩) (st_ONE_OPERAND : (ct_ONE_OPERAND == sysModules) = false)
    (vt_CONVERTED_KINDS : Rows w.params es_CONVERTED_KINDS.toList (v_CONVERTED_KINDS (⟨cC_HostError, cC_Trap, cI_Trap, (PySem.W.fnOf "__init__" "Trap.__init__" (defArgs i_Trap) (defBody i_Trap) (defScope i_Trap) .none kVI_Trap dcI_Trap pmI_Trap anI_Trap cdI_Trap ctI_Trap), cC_UnknownInstruction, cI_UnknownInstruction, (PySem.W.fnOf "__init__" "UnknownInstruction.__init__" (defArgs i_UnknownInstruction) (defBody i_UnknownInstruction) (defScope i_UnknownInstruction) .none kVI_UnknownInstruction dcI_UnknownInstruction pmI_UnknownInstruction anI_UnknownInstruction cdI_UnknownInstruction ctI_UnknownInstruction), cC_BadValues, ct_INSTRUCTIONS, ct_CONVERTED_KINDS, ct_COMPARISONS, ct_ONE_OPERAND, f0, f1, f2, f3, f4, f5, f6, f7⟩ : Cs)))
    (vt_ONE_OPERAND : Rows w.params es_ONE_OPERAND.toList (v_ONE_OPERAND (⟨cC_HostError, cC_Trap, cI_Trap, (PySem.W.fnOf "__init__" "Trap.__init__" (defArgs i_Trap) (defBody i_Trap) (defScope i_Trap) .none kVI_Trap dcI_Trap pmI_Trap anI_Trap cdI_Trap ctI_Trap), cC_UnknownInstruction, cI_UnknownInstruction, (PySem.W.fnOf "__init__" "UnknownInstruction.__init__" (defArgs i_UnknownInstruction) (defBody i_UnknownInstruction) (defScope i_UnknownInstruction) .none kVI_UnknownInstruction dcI_UnknownInstruction pmI_UnknownInstruction anI_UnknownInstruction cdI_UnknownInstruction ctI_UnknownInstruction), cC_BadValues, ct_INSTRUCTIONS, ct_CONVERTED_KINDS, ct_COMPARISONS, ct_ONE_OPERAND, f0, f1, f2, f3, f4, f5, f6, f7⟩ : Cs)))
    : ∃ fd : FuncData, (∀ (s : Shared) (v : Value), BindsTo s fd ⟨[v], []⟩ [("script", v)]) ∧ ∀ base : Heap, K.In base → base.Ns mainGlobals mg → FnOk l.prog w K mg base CX0 6 fa fd ["script"] (sp_lawK K) := by
  have e := hfa.symm.trans (PySem.W.mg_of X G a19)
  cases e
  have FI_Trap := fun_mk (st := i_Trap) lI_Trap cdo_Trap kI_Trap
  have FI_UnknownInstruction := fun_mk (st := i_UnknownInstruction) lI_UnknownInstruction cdo_UnknownInstruction kI_UnknownInstruction
  have T : Tp w K mg (⟨cC_HostError, cC_Trap, cI_Trap, (PySem.W.fnOf "__init__" "Trap.__init__" (defArgs i_Trap) (defBody i_Trap) (defScope i_Trap) .none kVI_Trap dcI_Trap pmI_Trap anI_Trap cdI_Trap ctI_Trap), cC_UnknownInstruction, cI_UnknownInstruction, (PySem.W.fnOf "__init__" "UnknownInstruction.__init__" (defArgs i_UnknownInstruction) (defBody i_UnknownInstruction) (defScope i_UnknownInstruction) .none kVI_UnknownInstruction dcI_UnknownInstruction pmI_UnknownInstruction anI_UnknownInstruction cdI_UnknownInstruction ctI_UnknownInstruction), cC_BadValues, ct_INSTRUCTIONS, ct_CONVERTED_KINDS, ct_COMPARISONS, ct_ONE_OPERAND, f0, f1, f2, f3, f4, f5, f6, f7⟩ : Cs) := ⟨PySem.W.mg_none_of X G z_ValueError, PySem.W.mg_none_of X G z_int, PySem.W.mg_none_of X G z_isinstance, PySem.W.mg_none_of X G z_len, PySem.W.mg_none_of X G z_list, PySem.W.mg_none_of X G z_min, PySem.W.mg_none_of X G z_range, PySem.W.mg_none_of X G z_sorted, PySem.W.mg_none_of X G z_str, PySem.W.mg_none_of X G z_tuple, PySem.W.mg_of X G aC_HostError, PySem.W.mg_of X G aC_Trap, ⟨PySem.W.mg_of X G aC_Trap, ⟨⟨nm_Trap, qn_Trap, N_Trap, bs_Trap, _, sn_Trap, sub_Trap, ab_Trap, col_Trap, dd_Trap, m0_Trap, m1_Trap, m2_Trap, m3_Trap, m5_Trap, xl_Trap, by rfl⟩, sa_Trap, ex_Trap, ty_Trap, kp_Trap⟩, ga_Trap, gg_Trap, hd_Trap, ca_Trap, sp0, tk0, mr_Trap⟩, aI_Trap, tI_Trap, FI_Trap, FI_Trap.binds (ps := ["self", "reason"]) fun _ _ _ _ _ _ us hl => match us, hl with | [_, _], _ => rfl, no_Trap_reason, kit_two ne_Trap_HostError hd_HostError ty_HostError sub_Trap_HostError, PySem.W.exm_ref ex_HostError hd_HostError ty_HostError sub_Trap_HostError, kit_self, PySem.W.exm_ref ex_Trap hd_Trap ty_Trap sub_Trap_Trap, kit_two ne_Trap_UnknownInstruction hd_UnknownInstruction ty_UnknownInstruction sub_Trap_UnknownInstruction, PySem.W.exm_ref ex_UnknownInstruction hd_UnknownInstruction ty_UnknownInstruction sub_Trap_UnknownInstruction, kit_two ne_Trap_BadValues hd_BadValues ty_BadValues sub_Trap_BadValues, PySem.W.exm_ref ex_BadValues hd_BadValues ty_BadValues sub_Trap_BadValues, kit_ve sub_Trap_VE, PySem.W.mg_of X G aC_UnknownInstruction, ⟨PySem.W.mg_of X G aC_UnknownInstruction, ⟨⟨nm_UnknownInstruction, qn_UnknownInstruction, N_UnknownInstruction, bs_UnknownInstruction, _, sn_UnknownInstruction, sub_UnknownInstruction, ab_UnknownInstruction, col_UnknownInstruction, dd_UnknownInstruction, m0_UnknownInstruction, m1_UnknownInstruction, m2_UnknownInstruction, m3_UnknownInstruction, m5_UnknownInstruction, xl_UnknownInstruction, by rfl⟩, sa_UnknownInstruction, ex_UnknownInstruction, ty_UnknownInstruction, kp_UnknownInstruction⟩, ga_UnknownInstruction, gg_UnknownInstruction, hd_UnknownInstruction, ca_UnknownInstruction, sp0, tk0, mr_UnknownInstruction⟩, aI_UnknownInstruction, tI_UnknownInstruction, FI_UnknownInstruction, FI_UnknownInstruction.binds (ps := ["self", "name"]) fun _ _ _ _ _ _ us hl => match us, hl with | [_, _], _ => rfl, no_UnknownInstruction_name, kit_two ne_UnknownInstruction_HostError hd_HostError ty_HostError sub_UnknownInstruction_HostError, PySem.W.exm_ref ex_HostError hd_HostError ty_HostError sub_UnknownInstruction_HostError, kit_two ne_UnknownInstruction_Trap hd_Trap ty_Trap sub_UnknownInstruction_Trap, PySem.W.exm_ref ex_Trap hd_Trap ty_Trap sub_UnknownInstruction_Trap, kit_self, PySem.W.exm_ref ex_UnknownInstruction hd_UnknownInstruction ty_UnknownInstruction sub_UnknownInstruction_UnknownInstruction, kit_two ne_UnknownInstruction_BadValues hd_BadValues ty_BadValues sub_UnknownInstruction_BadValues, PySem.W.exm_ref ex_BadValues hd_BadValues ty_BadValues sub_UnknownInstruction_BadValues, kit_ve sub_UnknownInstruction_VE, PySem.W.mg_of X G aC_BadValues, x0_BadValues, kp_BadValues, ex_BadValues, ty_BadValues, ⟨ga_BadValues, gg_BadValues, ex_BadValues, hd_BadValues, ca_BadValues, sp0, tk0, mr_BadValues⟩, kit_two ne_BadValues_HostError hd_HostError ty_HostError sub_BadValues_HostError, PySem.W.exm_ref ex_HostError hd_HostError ty_HostError sub_BadValues_HostError, kit_two ne_BadValues_Trap hd_Trap ty_Trap sub_BadValues_Trap, PySem.W.exm_ref ex_Trap hd_Trap ty_Trap sub_BadValues_Trap, kit_two ne_BadValues_UnknownInstruction hd_UnknownInstruction ty_UnknownInstruction sub_BadValues_UnknownInstruction, PySem.W.exm_ref ex_UnknownInstruction hd_UnknownInstruction ty_UnknownInstruction sub_BadValues_UnknownInstruction, kit_self, PySem.W.exm_ref ex_BadValues hd_BadValues ty_BadValues sub_BadValues_BadValues, kit_ve sub_BadValues_VE, PySem.W.mg_of X G at_INSTRUCTIONS, ⟨⟨_, _, _, lt_INSTRUCTIONS, rfl, rfl, zt_INSTRUCTIONS, vt_INSTRUCTIONS⟩⟩, PySem.W.mg_of X G at_CONVERTED_KINDS, ⟨⟨_, _, lt_CONVERTED_KINDS, st_CONVERTED_KINDS, vt_CONVERTED_KINDS⟩⟩, PySem.W.mg_of X G at_COMPARISONS, ⟨⟨_, _, _, lt_COMPARISONS, rfl, rfl, zt_COMPARISONS, vt_COMPARISONS⟩⟩, PySem.W.mg_of X G at_ONE_OPERAND, ⟨⟨_, _, lt_ONE_OPERAND, st_ONE_OPERAND, vt_ONE_OPERAND⟩⟩, PySem.W.mg_of X G a0, PySem.W.mg_of X G a1, PySem.W.mg_of X G a2, PySem.W.mg_of X G a3, PySem.W.mg_of X G a4, PySem.W.mg_of X G a5, PySem.W.mg_of X G a6, PySem.W.mg_of X G a7⟩
  have F0 := fun_mk (st := s_is_zero) l0 c0 k0
  have D_is_zero : Def K mg "is_zero" s_is_zero ["bits", "a"] := ⟨_, _, F0, PySem.W.mg_of X G a0, F0.binds (ps := ["bits", "a"]) fun _ _ _ _ _ _ us hl => match us, hl with | [_, _], _ => rfl⟩
  have F1 := fun_mk (st := s_leading_zeros) l1 c1 k1
  have D_leading_zeros : Def K mg "leading_zeros" s_leading_zeros ["bits", "a"] := ⟨_, _, F1, PySem.W.mg_of X G a1, F1.binds (ps := ["bits", "a"]) fun _ _ _ _ _ _ us hl => match us, hl with | [_, _], _ => rfl⟩
  have F2 := fun_mk (st := s_trailing_zeros) l2 c2 k2
  have D_trailing_zeros : Def K mg "trailing_zeros" s_trailing_zeros ["bits", "a"] := ⟨_, _, F2, PySem.W.mg_of X G a2, F2.binds (ps := ["bits", "a"]) fun _ _ _ _ _ _ us hl => match us, hl with | [_, _], _ => rfl⟩
  have F3 := fun_mk (st := s_ones) l3 c3 k3
  have D_ones : Def K mg "ones" s_ones ["bits", "a"] := ⟨_, _, F3, PySem.W.mg_of X G a3, F3.binds (ps := ["bits", "a"]) fun _ _ _ _ _ _ us hl => match us, hl with | [_, _], _ => rfl⟩
  have F4 := fun_mk (st := s_extend_8) l4 c4 k4
  have D_extend_8 : Def K mg "extend_8" s_extend_8 ["bits", "a"] := ⟨_, _, F4, PySem.W.mg_of X G a4, F4.binds (ps := ["bits", "a"]) fun _ _ _ _ _ _ us hl => match us, hl with | [_, _], _ => rfl⟩
  have F5 := fun_mk (st := s_extend_16) l5 c5 k5
  have D_extend_16 : Def K mg "extend_16" s_extend_16 ["bits", "a"] := ⟨_, _, F5, PySem.W.mg_of X G a5, F5.binds (ps := ["bits", "a"]) fun _ _ _ _ _ _ us hl => match us, hl with | [_, _], _ => rfl⟩
  have F6 := fun_mk (st := s_extend_32) l6 c6 k6
  have D_extend_32 : Def K mg "extend_32" s_extend_32 ["bits", "a"] := ⟨_, _, F6, PySem.W.mg_of X G a6, F6.binds (ps := ["bits", "a"]) fun _ _ _ _ _ _ us hl => match us, hl with | [_, _], _ => rfl⟩
  have F7 := fun_mk (st := s_unchanged) l7 c7 k7
  have D_unchanged : Def K mg "unchanged" s_unchanged ["bits", "a"] := ⟨_, _, F7, PySem.W.mg_of X G a7, F7.binds (ps := ["bits", "a"]) fun _ _ _ _ _ _ us hl => match us, hl with | [_, _], _ => rfl⟩
  have F8 := fun_mk (st := s_signature_of) l8 c8 k8
  have D_signature_of : Def K mg "signature_of" s_signature_of ["name"] := ⟨_, _, F8, PySem.W.mg_of X G a8, F8.binds (ps := ["name"]) fun _ _ _ _ _ _ us hl => match us, hl with | [_], _ => rfl⟩
  have F9 := fun_mk (st := s_calculate) l9 c9 k9
  have D_calculate : Def K mg "calculate" s_calculate ["name", "operands"] := ⟨_, _, F9, PySem.W.mg_of X G a9, F9.binds (ps := ["name", "operands"]) fun _ _ _ _ _ _ us hl => match us, hl with | [_, _], _ => rfl⟩
  have F10 := fun_mk (st := s__law_cell) l10 c10 k10
  have D__law_cell : Def K mg "_law_cell" s__law_cell ["script", "k"] := ⟨_, _, F10, PySem.W.mg_of X G a10, F10.binds (ps := ["script", "k"]) fun _ _ _ _ _ _ us hl => match us, hl with | [_, _], _ => rfl⟩
  have F11 := fun_mk (st := s__law_params) l11 c11 k11
  have D__law_params : Def K mg "_law_params" s__law_params ["name"] := ⟨_, _, F11, PySem.W.mg_of X G a11, F11.binds (ps := ["name"]) fun _ _ _ _ _ _ us hl => match us, hl with | [_], _ => rfl⟩
  have F12 := fun_mk (st := s__law_names) l12 c12 k12
  have D__law_names : Def K mg "_law_names" s__law_names [] := ⟨_, _, F12, PySem.W.mg_of X G a12, F12.binds (ps := []) fun _ _ _ _ _ _ us hl => match us, hl with | [], _ => rfl⟩
  have F13 := fun_mk (st := s__law_char) l13 c13 k13
  have D__law_char : Def K mg "_law_char" s__law_char ["cell"] := ⟨_, _, F13, PySem.W.mg_of X G a13, F13.binds (ps := ["cell"]) fun _ _ _ _ _ _ us hl => match us, hl with | [_], _ => rfl⟩
  have F14 := fun_mk (st := s__law_edited) l14 c14 k14
  have D__law_edited : Def K mg "_law_edited" s__law_edited ["name", "cell"] := ⟨_, _, F14, PySem.W.mg_of X G a14, F14.binds (ps := ["name", "cell"]) fun _ _ _ _ _ _ us hl => match us, hl with | [_, _], _ => rfl⟩
  have F15 := fun_mk (st := s__law_results) l15 c15 k15
  have D__law_results : Def K mg "_law_results" s__law_results ["name"] := ⟨_, _, F15, PySem.W.mg_of X G a15, F15.binds (ps := ["name"]) fun _ _ _ _ _ _ us hl => match us, hl with | [_], _ => rfl⟩
  have F16 := fun_mk (st := s__law_kinds) l16 c16 k16
  have D__law_kinds : Def K mg "_law_kinds" s__law_kinds ["actual", "due"] := ⟨_, _, F16, PySem.W.mg_of X G a16, F16.binds (ps := ["actual", "due"]) fun _ _ _ _ _ _ us hl => match us, hl with | [_, _], _ => rfl⟩
  have F17 := fun_mk (st := s__law_right) l17 c17 k17
  have D__law_right : Def K mg "_law_right" s__law_right ["name"] := ⟨_, _, F17, PySem.W.mg_of X G a17, F17.binds (ps := ["name"]) fun _ _ _ _ _ _ us hl => match us, hl with | [_], _ => rfl⟩
  have F18 := fun_mk (st := s__law_refused) l18 c18 k18
  have D__law_refused : Def K mg "_law_refused" s__law_refused ["name", "operands", "computed"] := ⟨_, _, F18, PySem.W.mg_of X G a18, F18.binds (ps := ["name", "operands", "computed"]) fun _ _ _ _ _ _ us hl => match us, hl with | [_, _, _], _ => rfl⟩
  have F19 := fun_mk (st := s_law) l19 c19 k19
  refine ⟨PySem.W.fnOf "law" "law" (defArgs s_law) (defBody s_law) (defScope s_law) .none kV19 dc19 pm19 an19 cd19 ct19, fun s v => .of_eq rfl, fun base _ _ => ?_⟩
  have C__law_names : Cal l.prog w K mg base CX0 1 "_law_names" (sp__law_names K (⟨cC_HostError, cC_Trap, cI_Trap, (PySem.W.fnOf "__init__" "Trap.__init__" (defArgs i_Trap) (defBody i_Trap) (defScope i_Trap) .none kVI_Trap dcI_Trap pmI_Trap anI_Trap cdI_Trap ctI_Trap), cC_UnknownInstruction, cI_UnknownInstruction, (PySem.W.fnOf "__init__" "UnknownInstruction.__init__" (defArgs i_UnknownInstruction) (defBody i_UnknownInstruction) (defScope i_UnknownInstruction) .none kVI_UnknownInstruction dcI_UnknownInstruction pmI_UnknownInstruction anI_UnknownInstruction cdI_UnknownInstruction ctI_UnknownInstruction), cC_BadValues, ct_INSTRUCTIONS, ct_CONVERTED_KINDS, ct_COMPARISONS, ct_ONE_OPERAND, f0, f1, f2, f3, f4, f5, f6, f7⟩ : Cs)) := c__law_names D__law_names T 
  have C__law_cell : Cal l.prog w K mg base CX0 1 "_law_cell" (sp__law_cell K (⟨cC_HostError, cC_Trap, cI_Trap, (PySem.W.fnOf "__init__" "Trap.__init__" (defArgs i_Trap) (defBody i_Trap) (defScope i_Trap) .none kVI_Trap dcI_Trap pmI_Trap anI_Trap cdI_Trap ctI_Trap), cC_UnknownInstruction, cI_UnknownInstruction, (PySem.W.fnOf "__init__" "UnknownInstruction.__init__" (defArgs i_UnknownInstruction) (defBody i_UnknownInstruction) (defScope i_UnknownInstruction) .none kVI_UnknownInstruction dcI_UnknownInstruction pmI_UnknownInstruction anI_UnknownInstruction cdI_UnknownInstruction ctI_UnknownInstruction), cC_BadValues, ct_INSTRUCTIONS, ct_CONVERTED_KINDS, ct_COMPARISONS, ct_ONE_OPERAND, f0, f1, f2, f3, f4, f5, f6, f7⟩ : Cs)) := c__law_cell D__law_cell T 
  have C_signature_of : Cal l.prog w K mg base (L2.CX l.prog w) 3 "signature_of" (sp_signature_of K (⟨cC_HostError, cC_Trap, cI_Trap, (PySem.W.fnOf "__init__" "Trap.__init__" (defArgs i_Trap) (defBody i_Trap) (defScope i_Trap) .none kVI_Trap dcI_Trap pmI_Trap anI_Trap cdI_Trap ctI_Trap), cC_UnknownInstruction, cI_UnknownInstruction, (PySem.W.fnOf "__init__" "UnknownInstruction.__init__" (defArgs i_UnknownInstruction) (defBody i_UnknownInstruction) (defScope i_UnknownInstruction) .none kVI_UnknownInstruction dcI_UnknownInstruction pmI_UnknownInstruction anI_UnknownInstruction cdI_UnknownInstruction ctI_UnknownInstruction), cC_BadValues, ct_INSTRUCTIONS, ct_CONVERTED_KINDS, ct_COMPARISONS, ct_ONE_OPERAND, f0, f1, f2, f3, f4, f5, f6, f7⟩ : Cs)) := c_signature_of D_signature_of T 
  have C__law_kinds : Cal l.prog w K mg base CX0 1 "_law_kinds" (sp__law_kinds K (⟨cC_HostError, cC_Trap, cI_Trap, (PySem.W.fnOf "__init__" "Trap.__init__" (defArgs i_Trap) (defBody i_Trap) (defScope i_Trap) .none kVI_Trap dcI_Trap pmI_Trap anI_Trap cdI_Trap ctI_Trap), cC_UnknownInstruction, cI_UnknownInstruction, (PySem.W.fnOf "__init__" "UnknownInstruction.__init__" (defArgs i_UnknownInstruction) (defBody i_UnknownInstruction) (defScope i_UnknownInstruction) .none kVI_UnknownInstruction dcI_UnknownInstruction pmI_UnknownInstruction anI_UnknownInstruction cdI_UnknownInstruction ctI_UnknownInstruction), cC_BadValues, ct_INSTRUCTIONS, ct_CONVERTED_KINDS, ct_COMPARISONS, ct_ONE_OPERAND, f0, f1, f2, f3, f4, f5, f6, f7⟩ : Cs)) := c__law_kinds D__law_kinds T 
  have C__law_params : Cal l.prog w K mg base CX0 1 "_law_params" (sp__law_params K (⟨cC_HostError, cC_Trap, cI_Trap, (PySem.W.fnOf "__init__" "Trap.__init__" (defArgs i_Trap) (defBody i_Trap) (defScope i_Trap) .none kVI_Trap dcI_Trap pmI_Trap anI_Trap cdI_Trap ctI_Trap), cC_UnknownInstruction, cI_UnknownInstruction, (PySem.W.fnOf "__init__" "UnknownInstruction.__init__" (defArgs i_UnknownInstruction) (defBody i_UnknownInstruction) (defScope i_UnknownInstruction) .none kVI_UnknownInstruction dcI_UnknownInstruction pmI_UnknownInstruction anI_UnknownInstruction cdI_UnknownInstruction ctI_UnknownInstruction), cC_BadValues, ct_INSTRUCTIONS, ct_CONVERTED_KINDS, ct_COMPARISONS, ct_ONE_OPERAND, f0, f1, f2, f3, f4, f5, f6, f7⟩ : Cs)) := c__law_params D__law_params T 
  have C__law_results : Cal l.prog w K mg base CX0 1 "_law_results" (sp__law_results K (⟨cC_HostError, cC_Trap, cI_Trap, (PySem.W.fnOf "__init__" "Trap.__init__" (defArgs i_Trap) (defBody i_Trap) (defScope i_Trap) .none kVI_Trap dcI_Trap pmI_Trap anI_Trap cdI_Trap ctI_Trap), cC_UnknownInstruction, cI_UnknownInstruction, (PySem.W.fnOf "__init__" "UnknownInstruction.__init__" (defArgs i_UnknownInstruction) (defBody i_UnknownInstruction) (defScope i_UnknownInstruction) .none kVI_UnknownInstruction dcI_UnknownInstruction pmI_UnknownInstruction anI_UnknownInstruction cdI_UnknownInstruction ctI_UnknownInstruction), cC_BadValues, ct_INSTRUCTIONS, ct_CONVERTED_KINDS, ct_COMPARISONS, ct_ONE_OPERAND, f0, f1, f2, f3, f4, f5, f6, f7⟩ : Cs)) := c__law_results D__law_results T 
  have C__law_right : Cal l.prog w K mg base CX0 4 "_law_right" (sp__law_right K (⟨cC_HostError, cC_Trap, cI_Trap, (PySem.W.fnOf "__init__" "Trap.__init__" (defArgs i_Trap) (defBody i_Trap) (defScope i_Trap) .none kVI_Trap dcI_Trap pmI_Trap anI_Trap cdI_Trap ctI_Trap), cC_UnknownInstruction, cI_UnknownInstruction, (PySem.W.fnOf "__init__" "UnknownInstruction.__init__" (defArgs i_UnknownInstruction) (defBody i_UnknownInstruction) (defScope i_UnknownInstruction) .none kVI_UnknownInstruction dcI_UnknownInstruction pmI_UnknownInstruction anI_UnknownInstruction cdI_UnknownInstruction ctI_UnknownInstruction), cC_BadValues, ct_INSTRUCTIONS, ct_CONVERTED_KINDS, ct_COMPARISONS, ct_ONE_OPERAND, f0, f1, f2, f3, f4, f5, f6, f7⟩ : Cs)) := c__law_right D__law_right T C_signature_of C__law_kinds C__law_params C__law_results
  have C__law_char : Cal l.prog w K mg base CX0 1 "_law_char" (sp__law_char K (⟨cC_HostError, cC_Trap, cI_Trap, (PySem.W.fnOf "__init__" "Trap.__init__" (defArgs i_Trap) (defBody i_Trap) (defScope i_Trap) .none kVI_Trap dcI_Trap pmI_Trap anI_Trap cdI_Trap ctI_Trap), cC_UnknownInstruction, cI_UnknownInstruction, (PySem.W.fnOf "__init__" "UnknownInstruction.__init__" (defArgs i_UnknownInstruction) (defBody i_UnknownInstruction) (defScope i_UnknownInstruction) .none kVI_UnknownInstruction dcI_UnknownInstruction pmI_UnknownInstruction anI_UnknownInstruction cdI_UnknownInstruction ctI_UnknownInstruction), cC_BadValues, ct_INSTRUCTIONS, ct_CONVERTED_KINDS, ct_COMPARISONS, ct_ONE_OPERAND, f0, f1, f2, f3, f4, f5, f6, f7⟩ : Cs)) := c__law_char D__law_char T 
  have C__law_edited : Cal l.prog w K mg base CX0 2 "_law_edited" (sp__law_edited K (⟨cC_HostError, cC_Trap, cI_Trap, (PySem.W.fnOf "__init__" "Trap.__init__" (defArgs i_Trap) (defBody i_Trap) (defScope i_Trap) .none kVI_Trap dcI_Trap pmI_Trap anI_Trap cdI_Trap ctI_Trap), cC_UnknownInstruction, cI_UnknownInstruction, (PySem.W.fnOf "__init__" "UnknownInstruction.__init__" (defArgs i_UnknownInstruction) (defBody i_UnknownInstruction) (defScope i_UnknownInstruction) .none kVI_UnknownInstruction dcI_UnknownInstruction pmI_UnknownInstruction anI_UnknownInstruction cdI_UnknownInstruction ctI_UnknownInstruction), cC_BadValues, ct_INSTRUCTIONS, ct_CONVERTED_KINDS, ct_COMPARISONS, ct_ONE_OPERAND, f0, f1, f2, f3, f4, f5, f6, f7⟩ : Cs)) := c__law_edited D__law_edited T C__law_char
  have C_calculate : Cal l.prog w K mg base (L2.CX l.prog w) 4 "calculate" (sp_calculate K (⟨cC_HostError, cC_Trap, cI_Trap, (PySem.W.fnOf "__init__" "Trap.__init__" (defArgs i_Trap) (defBody i_Trap) (defScope i_Trap) .none kVI_Trap dcI_Trap pmI_Trap anI_Trap cdI_Trap ctI_Trap), cC_UnknownInstruction, cI_UnknownInstruction, (PySem.W.fnOf "__init__" "UnknownInstruction.__init__" (defArgs i_UnknownInstruction) (defBody i_UnknownInstruction) (defScope i_UnknownInstruction) .none kVI_UnknownInstruction dcI_UnknownInstruction pmI_UnknownInstruction anI_UnknownInstruction cdI_UnknownInstruction ctI_UnknownInstruction), cC_BadValues, ct_INSTRUCTIONS, ct_CONVERTED_KINDS, ct_COMPARISONS, ct_ONE_OPERAND, f0, f1, f2, f3, f4, f5, f6, f7⟩ : Cs)) := c_calculate D_calculate T C_signature_of
  have C__law_refused : Cal l.prog w K mg base CX0 5 "_law_refused" (sp__law_refused K (⟨cC_HostError, cC_Trap, cI_Trap, (PySem.W.fnOf "__init__" "Trap.__init__" (defArgs i_Trap) (defBody i_Trap) (defScope i_Trap) .none kVI_Trap dcI_Trap pmI_Trap anI_Trap cdI_Trap ctI_Trap), cC_UnknownInstruction, cI_UnknownInstruction, (PySem.W.fnOf "__init__" "UnknownInstruction.__init__" (defArgs i_UnknownInstruction) (defBody i_UnknownInstruction) (defScope i_UnknownInstruction) .none kVI_UnknownInstruction dcI_UnknownInstruction pmI_UnknownInstruction anI_UnknownInstruction cdI_UnknownInstruction ctI_UnknownInstruction), cC_BadValues, ct_INSTRUCTIONS, ct_CONVERTED_KINDS, ct_COMPARISONS, ct_ONE_OPERAND, f0, f1, f2, f3, f4, f5, f6, f7⟩ : Cs)) := c__law_refused D__law_refused T C_calculate C_signature_of
  exact c_law F19 T C__law_names C__law_cell C__law_right C__law_edited C__law_params C__law_refused
theorem walk {l : PySem.W.OpenLaw} {q : Program} {loose : List Str} {XP : (Str → Option Value) → Heap → Prop} {YP : World → Heap → Prop} {d : DefRec} {K : Params → PySem.W.Frag} (hn : l.most = some 63) (hdf : d.params.defaults = [])
    (hY : ∀ (w : World) (h : Heap), YP w h → (K w.params).In h)
    (F : ∀ (w : World) (mg : Str → Option Value) (fa : Addr) (h : Heap), (K w.params).In h → h.Ns mainGlobals mg → mg d.name = some (.ref fa) →
      ∃ fd : FuncData, (∀ (s : Shared) (u : Value), BindsTo s fd ⟨[u], []⟩ [("script", u)]) ∧ ∀ base : Heap, (K w.params).In base → base.Ns mainGlobals mg → FnOk l.prog w (K w.params) mg base CX0 6 fa fd ["script"] (sp_lawK (K w.params))) :
    PySem.W.WalkO q loose XP YP l.row.toRowW d [] (fun f vs => PySem.call f vs) :=
  L2.walk_of (n := 63) (k := 6) (x := "script") (CX := fun _ => CX0) (sp := fun w => sp_lawK (K w.params)) hn (by decide) hdf ⟨rfl, by decide, by decide⟩ hY F (fun _ _ a ns hl _ hS => ⟨a, ns, rfl, hS, hl, fun _ => rfl⟩) fun _ _ _ _ _ z => z
end V
open PySem PySem.W PyProof.Rows
set_option maxRecDepth 100000 in
set_option maxHeartbeats 0 in
theorem PySem.Challenge.cw_wasmhost_k03_signatures_of_instructions_holds : PySem.Challenge.rw_wasmhost_k03_signatures_of_instructions.Holds := by
  w_on; o_law; k_head; (case hw => w_witness2)
  k_fill
  refine V.walk (l := PySem.Challenge.rw_wasmhost_k03_signatures_of_instructions) rfl rfl (fun w h Y => PySem.W.kIn_of Y) ?F
  case F =>
    intro w mg fa h KX G hmg
    refine' V.all_mk KX G hmg ?a0 ?l0 ?c0 ?k0 ?a1 ?l1 ?c1 ?k1 ?a2 ?l2 ?c2 ?k2 ?a3 ?l3 ?c3 ?k3 ?a4 ?l4 ?c4 ?k4 ?a5 ?l5 ?c5 ?k5 ?a6 ?l6 ?c6 ?k6 ?a7 ?l7 ?c7 ?k7 ?a8 ?l8 ?c8 ?k8 ?a9 ?l9 ?c9 ?k9 ?a10 ?l10 ?c10 ?k10 ?a11 ?l11 ?c11 ?k11 ?a12 ?l12 ?c12 ?k12 ?a13 ?l13 ?c13 ?k13 ?a14 ?l14 ?c14 ?k14 ?a15 ?l15 ?c15 ?k15 ?a16 ?l16 ?c16 ?k16 ?a17 ?l17 ?c17 ?k17 ?a18 ?l18 ?c18 ?k18 ?a19 ?l19 ?c19 ?k19 ?z_ValueError ?z_int ?z_isinstance ?z_len ?z_list ?z_min ?z_range ?z_sorted ?z_str ?z_tuple ?sp0 ?tk0 ?aC_HostError ?aC_Trap ?aC_UnknownInstruction ?aC_BadValues ?ex_HostError ?ty_HostError ?hd_HostError ?ex_Trap ?ty_Trap ?hd_Trap ?ex_UnknownInstruction ?ty_UnknownInstruction ?hd_UnknownInstruction ?ex_BadValues ?ty_BadValues ?hd_BadValues ?xl_Trap ?sa_Trap ?ga_Trap ?gg_Trap ?ca_Trap ?kp_Trap ?mr_Trap ?aI_Trap ?tI_Trap ?lI_Trap ?cdo_Trap ?kI_Trap ?no_Trap_reason ?sub_Trap_HostError ?ne_Trap_HostError ?sub_Trap_Trap ?sub_Trap_UnknownInstruction ?ne_Trap_UnknownInstruction ?sub_Trap_BadValues ?ne_Trap_BadValues ?sub_Trap_VE ?xl_UnknownInstruction ?sa_UnknownInstruction ?ga_UnknownInstruction ?gg_UnknownInstruction ?ca_UnknownInstruction ?kp_UnknownInstruction ?mr_UnknownInstruction ?aI_UnknownInstruction ?tI_UnknownInstruction ?lI_UnknownInstruction ?cdo_UnknownInstruction ?kI_UnknownInstruction ?no_UnknownInstruction_name ?sub_UnknownInstruction_HostError ?ne_UnknownInstruction_HostError ?sub_UnknownInstruction_Trap ?ne_UnknownInstruction_Trap ?sub_UnknownInstruction_UnknownInstruction ?sub_UnknownInstruction_BadValues ?ne_UnknownInstruction_BadValues ?sub_UnknownInstruction_VE ?x0_BadValues ?ga_BadValues ?gg_BadValues ?ca_BadValues ?kp_BadValues ?mr_BadValues ?sub_BadValues_HostError ?ne_BadValues_HostError ?sub_BadValues_Trap ?ne_BadValues_Trap ?sub_BadValues_UnknownInstruction ?ne_BadValues_UnknownInstruction ?sub_BadValues_BadValues ?sub_BadValues_VE ?at_INSTRUCTIONS ?lt_INSTRUCTIONS ?zt_INSTRUCTIONS ?vt_INSTRUCTIONS ?at_CONVERTED_KINDS ?lt_CONVERTED_KINDS ?st_CONVERTED_KINDS ?at_COMPARISONS ?lt_COMPARISONS ?zt_COMPARISONS ?vt_COMPARISONS ?at_ONE_OPERAND ?lt_ONE_OPERAND ?st_ONE_OPERAND ?vt_CONVERTED_KINDS ?vt_ONE_OPERAND
    (case a0 => k_is)
    (case l0 => k_is)
    (case c0 => k_is)
    (case k0 => k_is)
    (case a1 => k_is)
    (case l1 => k_is)
    (case c1 => k_is)
    (case k1 => k_is)
    (case a2 => k_is)
    (case l2 => k_is)
    (case c2 => k_is)
    (case k2 => k_is)
    (case a3 => k_is)
    (case l3 => k_is)
    (case c3 => k_is)
    (case k3 => k_is)
    (case a4 => k_is)
    (case l4 => k_is)
    (case c4 => k_is)
    (case k4 => k_is)
    (case a5 => k_is)
    (case l5 => k_is)
    (case c5 => k_is)
    (case k5 => k_is)
    (case a6 => k_is)
    (case l6 => k_is)
    (case c6 => k_is)
    (case k6 => k_is)
    (case a7 => k_is)
    (case l7 => k_is)
    (case c7 => k_is)
    (case k7 => k_is)
    (case a8 => k_is)
    (case l8 => k_is)
    (case c8 => k_is)
    (case k8 => k_is)
    (case a9 => k_is)
    (case l9 => k_is)
    (case c9 => k_is)
    (case k9 => k_is)
    (case a10 => k_is)
    (case l10 => k_is)
    (case c10 => k_is)
    (case k10 => k_is)
    (case a11 => k_is)
    (case l11 => k_is)
    (case c11 => k_is)
    (case k11 => k_is)
    (case a12 => k_is)
    (case l12 => k_is)
    (case c12 => k_is)
    (case k12 => k_is)
    (case a13 => k_is)
    (case l13 => k_is)
    (case c13 => k_is)
    (case k13 => k_is)
    (case a14 => k_is)
    (case l14 => k_is)
    (case c14 => k_is)
    (case k14 => k_is)
    (case a15 => k_is)
    (case l15 => k_is)
    (case c15 => k_is)
    (case k15 => k_is)
    (case a16 => k_is)
    (case l16 => k_is)
    (case c16 => k_is)
    (case k16 => k_is)
    (case a17 => k_is)
    (case l17 => k_is)
    (case c17 => k_is)
    (case k17 => k_is)
    (case a18 => k_is)
    (case l18 => k_is)
    (case c18 => k_is)
    (case k18 => k_is)
    (case a19 => k_is)
    (case l19 => k_is)
    (case c19 => k_is)
    (case k19 => k_is)
    (case z_ValueError => k_is)
    (case z_int => k_is)
    (case z_isinstance => k_is)
    (case z_len => k_is)
    (case z_list => k_is)
    (case z_min => k_is)
    (case z_range => k_is)
    (case z_sorted => k_is)
    (case z_str => k_is)
    (case z_tuple => k_is)
    (case sp0 => k_is)
    (case tk0 => k_is)
    (case aC_HostError => k_is)
    (case aC_Trap => k_is)
    (case aC_UnknownInstruction => k_is)
    (case aC_BadValues => k_is)
    (case ex_HostError => k_is)
    (case ty_HostError => k_is)
    (case hd_HostError => k_is)
    (case ex_Trap => k_is)
    (case ty_Trap => k_is)
    (case hd_Trap => k_is)
    (case ex_UnknownInstruction => k_is)
    (case ty_UnknownInstruction => k_is)
    (case hd_UnknownInstruction => k_is)
    (case ex_BadValues => k_is)
    (case ty_BadValues => k_is)
    (case hd_BadValues => k_is)
    (case xl_Trap => k_is)
    (case sa_Trap => k_is)
    (case ga_Trap => k_is)
    (case gg_Trap => k_is)
    (case ca_Trap => k_is)
    (case kp_Trap => k_is)
    (case mr_Trap => k_is)
    (case aI_Trap => k_is)
    (case tI_Trap => k_is)
    (case lI_Trap => k_is)
    (case cdo_Trap => k_is)
    (case kI_Trap => k_is)
    (case no_Trap_reason => k_is)
    (case sub_Trap_HostError => first | rfl | k_is)
    (case ne_Trap_HostError => decide)
    (case sub_Trap_Trap => first | rfl | k_is)
    (case sub_Trap_UnknownInstruction => first | rfl | k_is)
    (case ne_Trap_UnknownInstruction => decide)
    (case sub_Trap_BadValues => first | rfl | k_is)
    (case ne_Trap_BadValues => decide)
    (case sub_Trap_VE => first | rfl | k_is)
    (case xl_UnknownInstruction => k_is)
    (case sa_UnknownInstruction => k_is)
    (case ga_UnknownInstruction => k_is)
    (case gg_UnknownInstruction => k_is)
    (case ca_UnknownInstruction => k_is)
    (case kp_UnknownInstruction => k_is)
    (case mr_UnknownInstruction => k_is)
    (case aI_UnknownInstruction => k_is)
    (case tI_UnknownInstruction => k_is)
    (case lI_UnknownInstruction => k_is)
    (case cdo_UnknownInstruction => k_is)
    (case kI_UnknownInstruction => k_is)
    (case no_UnknownInstruction_name => k_is)
    (case sub_UnknownInstruction_HostError => first | rfl | k_is)
    (case ne_UnknownInstruction_HostError => decide)
    (case sub_UnknownInstruction_Trap => first | rfl | k_is)
    (case ne_UnknownInstruction_Trap => decide)
    (case sub_UnknownInstruction_UnknownInstruction => first | rfl | k_is)
    (case sub_UnknownInstruction_BadValues => first | rfl | k_is)
    (case ne_UnknownInstruction_BadValues => decide)
    (case sub_UnknownInstruction_VE => first | rfl | k_is)
    (case x0_BadValues => first | k_exc | k_is)
    (case ga_BadValues => k_is)
    (case gg_BadValues => k_is)
    (case ca_BadValues => k_is)
    (case kp_BadValues => k_is)
    (case mr_BadValues => k_is)
    (case sub_BadValues_HostError => first | rfl | k_is)
    (case ne_BadValues_HostError => decide)
    (case sub_BadValues_Trap => first | rfl | k_is)
    (case ne_BadValues_Trap => decide)
    (case sub_BadValues_UnknownInstruction => first | rfl | k_is)
    (case ne_BadValues_UnknownInstruction => decide)
    (case sub_BadValues_BadValues => first | rfl | k_is)
    (case sub_BadValues_VE => first | rfl | k_is)
    (case at_INSTRUCTIONS => k_is)
    (case lt_INSTRUCTIONS => k_is)
    (case zt_INSTRUCTIONS => exact V.small64 (by decide))
    (case vt_INSTRUCTIONS => exact V.vals_strs _ _ (by decide +kernel))
    (case at_CONVERTED_KINDS => k_is)
    (case lt_CONVERTED_KINDS => k_is)
    (case st_CONVERTED_KINDS => first | rfl | decide)
    (case at_COMPARISONS => k_is)
    (case lt_COMPARISONS => k_is)
    (case zt_COMPARISONS => exact V.small64 (by decide))
    (case vt_COMPARISONS => exact V.vals_strs _ _ (by decide +kernel))
    (case at_ONE_OPERAND => k_is)
    (case lt_ONE_OPERAND => k_is)
    (case st_ONE_OPERAND => first | rfl | decide)
    (case vt_CONVERTED_KINDS => repeat (first | exact True.intro | refine And.intro ⟨_, rfl⟩ (And.intro rfl (And.intro (by first | exact rfl | exact ⟨_, rfl⟩) ?_))))
    (case vt_ONE_OPERAND => repeat (first | exact True.intro | refine And.intro ⟨_, rfl⟩ (And.intro rfl (And.intro (by first | exact rfl | exact ⟨_, rfl⟩) ?_))))
#print axioms PySem.Challenge.cw_wasmhost_k03_signatures_of_instructions_holds


