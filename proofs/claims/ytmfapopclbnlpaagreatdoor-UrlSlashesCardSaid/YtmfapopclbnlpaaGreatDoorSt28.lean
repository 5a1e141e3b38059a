import Derived.Test.YtmfapopclbnlpaaGreatDoorProg
import Derived.ProofKit
import Derived.Test.YtmfapopclbnlpaaGreatDoorSt6
import Derived.Test.YtmfapopclbnlpaaGreatDoorSt25
import Derived.Test.YtmfapopclbnlpaaGreatDoorSt27
set_option linter.unusedVariables false
set_option linter.unusedSimpArgs false
set_option maxRecDepth 100000
set_option maxHeartbeats 4000000
namespace Go.Proofs.YtmfapopclbnlpaaGreatDoor
open Go Go.Proofs Go.RowKit Go.Vc
section
def oY:cq:=bR [(131,n8)]
def oZ(sc us pw:Bs)(hk:Int)(hs:Bs)(hn:Int)(hp:List Int)(port:Int)(opq pn:Bool)(pl:List Bs)(hq:Bool)(q:Bs)(hf:Bool)(fg:Bs)(bare sp:Bool)(rst:Bs)(bsc bus bpw:Bs)(bhk:Int)(bhs:Bs)(bhn:Int)(bhp:List Int)(bport:Int)(bopq bpn:Bool)(bpl:List Bs)(bhq:Bool)(bq:Bs)(bhf:Bool)(bfg:Bs):ba:=fun i=>none
theorem rH:cS Tryz.prog aA oY:=ai vP (ax)
theorem vQ(sc us pw:Bs)(hk:Int)(hs:Bs)(hn:Int)(hp:List Int)(port:Int)(opq pn:Bool)(pl:List Bs)(hq:Bool)(q:Bs)(hf:Bool)(fg:Bs)(bare sp:Bool)(rst:Bs)(bsc bus bpw:Bs)(bhk:Int)(bhs:Bs)(bhn:Int)(bhp:List Int)(bport:Int)(bopq bpn:Bool)(bpl:List Bs)(bhq:Bool)(bq:Bs)(bhf:Bool)(bfg:Bs)(k:PV→List PV→Prop):bQ Tryz.prog oY aA (oZ sc us pw hk hs hn hp port opq pn pl hq q hf fg bare sp rst bsc bus bpw bhk bhs bhn bhp bport bopq bpn bpl bhq bq bhf bfg) 1000 Tryz.f85 [.ptr 0 0] [aE 1 (.ptr 1 0) sc us pw hk hs hn hp port opq pn pl hq q hf fg bare sp rst,bG 0 bsc bus bpw bhk bhs bhn bhp bport bopq bpn bpl bhq bq bhf bfg] k=(
 bpl.length.le (1000000:Nat)∧
 k (PV.tup []) [bV (PV.ptr (1:Nat) (0:Nat)) 1 sc us pw hk hs hn hp port opq bpn bpl hq q hf fg bare sp rst,bG (0:Nat) bsc bus bpw bhk bhs bhn bhp bport bopq bpn bpl bhq bq bhf bfg]):=by kernel_rfl
attribute [local irreducible] Go.Vc.cD Go.Vc.bQ
theorem rI(sc us pw:Bs)(hk:Int)(hs:Bs)(hn:Int)(hp:List Int)(port:Int)(opq pn:Bool)(pl:List Bs)(hq:Bool)(q:Bs)(hf:Bool)(fg:Bs)(bare sp:Bool)(rst:Bs)(bsc bus bpw:Bs)(bhk:Int)(bhs:Bs)(bhn:Int)(bhp:List Int)(bport:Int)(bopq bpn:Bool)(bpl:List Bs)(bhq:Bool)(bq:Bs)(bhf:Bool)(bfg:Bs):br Tryz.prog aA 85 [.ptr 0 0] [aE 1 (.ptr 1 0) sc us pw hk hs hn hp port opq pn pl hq q hf fg bare sp rst,bG 0 bsc bus bpw bhk bhs bhn bhp bport bopq bpn bpl bhq bq bhf bfg] (bpl.length≤1000000) (.tup []) [aE 1 (.ptr 1 0) sc us pw hk hs hn hp port opq bpn bpl hq q hf fg bare sp rst,bG 0 bsc bus bpw bhk bhs bhn bhp bport bopq bpn bpl bhq bq bhf bfg]:=bH (by kernel_rfl) rH (H:=oZ sc us pw hk hs hn hp port opq pn pl hq q hf fg bare sp rst bsc bus bpw bhk bhs bhn bhp bport bopq bpn bpl bhq bq bhf bfg) (fuel:=1000) Tryz.func85 (by kernel_rfl) (Nat.le_of_ble_eq_true rfl) fun hpre=>(vQ sc us pw hk hs hn hp port opq pn pl hq q hf fg bare sp rst bsc bus bpw bhk bhs bhn bhp bport bopq bpn bpl bhq bq bhf bfg _).mpr (by
 exact ⟨hpre,rfl,rfl⟩)
theorem vR(sc us pw:Bs)(hk:Int)(hs:Bs)(hn:Int)(hp:List Int)(port:Int)(opq pn:Bool)(pl:List Bs)(hq:Bool)(q:Bs)(hf:Bool)(fg:Bs)(bare sp:Bool)(rst:Bs)(bsc bus bpw:Bs)(bhk:Int)(bhs:Bs)(bhn:Int)(bhp:List Int)(bport:Int)(bopq bpn:Bool)(bpl:List Bs)(bhq:Bool)(bq:Bs)(bhf:Bool)(bfg:Bs):ag Tryz.prog aA 85 [.ptr 0 0,aE 1 (.ptr 1 0) sc us pw hk hs hn hp port opq pn pl hq q hf fg bare sp rst,bG 0 bsc bus bpw bhk bhs bhn bhp bport bopq bpn bpl bhq bq bhf bfg] ⟨bpl.length≤1000000,.tup [.tup [],aE 1 (.ptr 1 0) sc us pw hk hs hn hp port opq bpn bpl hq q hf fg bare sp rst,bG 0 bsc bus bpw bhk bhs bhn bhp bport bopq bpn bpl bhq bq bhf bfg]⟩:=ag.bd (fun h=>by have e:List.isEmpty (PV.aB PV.bD [.ptr 0 0,aE 1 (.ptr 1 0) sc us pw hk hs hn hp port opq pn pl hq q hf fg bare sp rst,bG 0 bsc bus bpw bhk bhs bhn bhp bport bopq bpn bpl bhq bq bhf bfg])=false:=(by kernel_rfl);exact Bool.noConfusion (e.symm.trans (congrArg List.isEmpty h))) (rI sc us pw hk hs hn hp port opq pn pl hq q hf fg bare sp rst bsc bus bpw bhk bhs bhn bhp bport bopq bpn bpl bhq bq bhf bfg)
def ik:List PV→Option aI:=fun xs=>match xs with
 |[.ptr 0 0,aE 1 (.ptr 1 0) sc us pw hk hs hn hp port opq pn pl hq q hf fg bare sp rst,bG 0 bsc bus bpw bhk bhs bhn bhp bport bopq bpn bpl bhq bq bhf bfg]=>some ⟨bpl.length≤1000000,.tup [.tup [],aE 1 (.ptr 1 0) sc us pw hk hs hn hp port opq bpn bpl hq q hf fg bare sp rst,bG 0 bsc bus bpw bhk bhs bhn bhp bport bopq bpn bpl bhq bq bhf bfg]⟩
 |_=>none
theorem n9:∀xs c,ik xs=some c→ag Tryz.prog aA 85 xs c:=fun xs c h=>by
 unfold ik at h
 split at h
 ·injection h with h;subst h;exact vR _ _ _ _ _ _ _ _ _ _ _ _ _ _ _ _ _ _ _ _ _ _ _ _ _ _ _ _ _ _ _ _ _
 ·cases h
end
section
def Cc:cq:=bR [(82,j5),(84,gd),(77,gX),(85,ik),(86,lF),(122,j7),(90,n3)]
def Cd(sc us pw:Bs)(hk:Int)(hs:Bs)(hn:Int)(hp:List Int)(port:Int)(opq pn:Bool)(pl:List Bs)(hq:Bool)(q:Bs)(hf:Bool)(fg:Bs)(bare sp:Bool)(rst:Bs)(bsc bus bpw:Bs)(bhk:Int)(bhs:Bs)(bhn:Int)(bhp:List Int)(bport:Int)(bopq bpn:Bool)(bpl:List Bs)(bhq:Bool)(bq:Bs)(bhf:Bool)(bfg:Bs):ba:=fun i=>none
theorem AR:cS Tryz.prog aA Cc:=ai rA (ai lE (ai j6 (ai n9 (ai su (ai rC (ai vG (ax)))))))
theorem G3(sc us pw:Bs)(hk:Int)(hs:Bs)(hn:Int)(hp:List Int)(port:Int)(opq pn:Bool)(pl:List Bs)(hq:Bool)(q:Bs)(hf:Bool)(fg:Bs)(bare sp:Bool)(rst:Bs)(bsc bus bpw:Bs)(bhk:Int)(bhs:Bs)(bhn:Int)(bhp:List Int)(bport:Int)(bopq bpn:Bool)(bpl:List Bs)(bhq:Bool)(bq:Bs)(bhf:Bool)(bfg:Bs)(k:PV→List PV→Prop):bQ Tryz.prog Cc aA (Cd sc us pw hk hs hn hp port opq pn pl hq q hf fg bare sp rst bsc bus bpw bhk bhs bhn bhp bport bopq bpn bpl bhq bq bhf bfg) 1000 Tryz.f76 [.ptr 0 0] [aE 1 (.ptr 1 0) sc us pw hk hs hn hp port opq pn pl hq q hf fg bare sp rst,bG 0 bsc bus bpw bhk bhs bhn bhp bport bopq bpn bpl bhq bq bhf bfg] k=(
 (((0:Int)≤(0:Int)∧
 (0:Int)<(1000:Int))∧
 az sp rst (0:Int)=false)∧
 (false=true→
 (((0:Int)≤(1:Int)∧
 (1:Int)<(1000:Int))∧
 az sp rst (1:Int)=false)∧
 (false=true→
 upto (2:Int) (al rst) (al rst)∧
 False∧
 False)∧
 (false=false→
 az sp rst (0:Int)=false∧
 (false=true→
 False)∧
 (false=false→
 bsc=sc∧
 ((!true)=true→
 (List.length rst≤(300000:Nat)∧
 pl.length≤(100000:Nat))∧
 k (PV.int .i64 (0:Int)) [bV (PV.ptr (1:Nat) (0:Nat)) 1 sc us pw (1:Int) hs hn hp port opq ((bt sp sc (ae rst ↑(aF rst)) (pn,pl)).1) ((bt sp sc (ae rst ↑(aF rst)) (pn,pl)).2) hq q hf fg bare sp (aa rst ↑(aF rst)),bG (0:Nat) bsc bus bpw bhk bhs bhn bhp bport bopq bpn bpl bhq bq bhf bfg])∧
 ((!true)=false→
 bpl.length.le (1000000:Nat)∧
 bT rst=false∧
 (false=true→
 k (PV.int .i64 (0:Int)) [bV (PV.ptr (1:Nat) (0:Nat)) 1 sc us pw bhk bhs bhn bhp port opq bpn bpl hq q hf fg bare sp rst,bG (0:Nat) bsc bus bpw bhk bhs bhn bhp bport bopq bpn bpl bhq bq bhf bfg])∧
 (false=false→
 (List.length rst≤(300000:Nat)∧
 bpl.length≤(1000000:Nat)∧
 bC rst=false)∧
 (List.length rst≤(300000:Nat)∧
 (RS.mk sc us pw bhk bhs bhn bhp port opq bpn bpl hq q hf fg bare sp rst).short.pl.length≤(100000:Nat))∧
 k (PV.int .i64 (0:Int)) [bV (PV.ptr (1:Nat) (0:Nat)) 1 sc us pw bhk bhs bhn bhp port opq ((bt sp sc (ae rst ↑(aF rst)) ((RS.mk sc us pw bhk bhs bhn bhp port opq bpn bpl hq q hf fg bare sp rst).short.pn,(RS.mk sc us pw bhk bhs bhn bhp port opq bpn bpl hq q hf fg bare sp rst).short.pl)).1) ((bt sp sc (ae rst ↑(aF rst)) ((RS.mk sc us pw bhk bhs bhn bhp port opq bpn bpl hq q hf fg bare sp rst).short.pn,(RS.mk sc us pw bhk bhs bhn bhp port opq bpn bpl hq q hf fg bare sp rst).short.pl)).2) hq q hf fg bare sp (aa rst ↑(aF rst)),bG (0:Nat) bsc bus bpw bhk bhs bhn bhp bport bopq bpn bpl bhq bq bhf bfg])))))∧
 (false=!true→
 (false=true→
 upto (2:Int) (al rst) (al rst)∧
 False∧
 False)∧
 (false=false→
 az sp rst (0:Int)=false∧
 (false=true→
 False)∧
 (false=false→
 bsc=sc∧
 ((!true)=true→
 (List.length rst≤(300000:Nat)∧
 pl.length≤(100000:Nat))∧
 k (PV.int .i64 (0:Int)) [bV (PV.ptr (1:Nat) (0:Nat)) 1 sc us pw (1:Int) hs hn hp port opq ((bt sp sc (ae rst ↑(aF rst)) (pn,pl)).1) ((bt sp sc (ae rst ↑(aF rst)) (pn,pl)).2) hq q hf fg bare sp (aa rst ↑(aF rst)),bG (0:Nat) bsc bus bpw bhk bhs bhn bhp bport bopq bpn bpl bhq bq bhf bfg])∧
 ((!true)=false→
 bpl.length.le (1000000:Nat)∧
 bT rst=false∧
 (false=true→
 k (PV.int .i64 (0:Int)) [bV (PV.ptr (1:Nat) (0:Nat)) 1 sc us pw bhk bhs bhn bhp port opq bpn bpl hq q hf fg bare sp rst,bG (0:Nat) bsc bus bpw bhk bhs bhn bhp bport bopq bpn bpl bhq bq bhf bfg])∧
 (false=false→
 (List.length rst≤(300000:Nat)∧
 bpl.length≤(1000000:Nat)∧
 bC rst=false)∧
 (List.length rst≤(300000:Nat)∧
 (RS.mk sc us pw bhk bhs bhn bhp port opq bpn bpl hq q hf fg bare sp rst).short.pl.length≤(100000:Nat))∧
 k (PV.int .i64 (0:Int)) [bV (PV.ptr (1:Nat) (0:Nat)) 1 sc us pw bhk bhs bhn bhp port opq ((bt sp sc (ae rst ↑(aF rst)) ((RS.mk sc us pw bhk bhs bhn bhp port opq bpn bpl hq q hf fg bare sp rst).short.pn,(RS.mk sc us pw bhk bhs bhn bhp port opq bpn bpl hq q hf fg bare sp rst).short.pl)).1) ((bt sp sc (ae rst ↑(aF rst)) ((RS.mk sc us pw bhk bhs bhn bhp port opq bpn bpl hq q hf fg bare sp rst).short.pn,(RS.mk sc us pw bhk bhs bhn bhp port opq bpn bpl hq q hf fg bare sp rst).short.pl)).2) hq q hf fg bare sp (aa rst ↑(aF rst)),bG (0:Nat) bsc bus bpw bhk bhs bhn bhp bport bopq bpn bpl bhq bq bhf bfg])))))):=by kernel_rfl
attribute [local irreducible] Go.Vc.cD Go.Vc.bQ
theorem AS(sc us pw:Bs)(hk:Int)(hs:Bs)(hn:Int)(hp:List Int)(port:Int)(opq pn:Bool)(pl:List Bs)(hq:Bool)(q:Bs)(hf:Bool)(fg:Bs)(bare sp:Bool)(rst:Bs)(bsc bus bpw:Bs)(bhk:Int)(bhs:Bs)(bhn:Int)(bhp:List Int)(bport:Int)(bopq bpn:Bool)(bpl:List Bs)(bhq:Bool)(bq:Bs)(bhf:Bool)(bfg:Bs):br Tryz.prog aA 76 [.ptr 0 0] [aE 1 (.ptr 1 0) sc us pw hk hs hn hp port opq pn pl hq q hf fg bare sp rst,bG 0 bsc bus bpw bhk bhs bhn bhp bport bopq bpn bpl bhq bq bhf bfg] (rst.length≤300000∧bpl.length≤100000∧az sp rst 0=false∧bT rst=false∧bC rst=false∧bsc=sc) (.int .i64 0) [aE 1 (.ptr 1 0) sc us pw (((RS.mk sc us pw hk hs hn hp port opq pn pl hq q hf fg bare sp rst).cc (RS.mk bsc bus bpw bhk bhs bhn bhp bport bopq bpn bpl bhq bq bhf bfg false false [])).hk) (((RS.mk sc us pw hk hs hn hp port opq pn pl hq q hf fg bare sp rst).cc (RS.mk bsc bus bpw bhk bhs bhn bhp bport bopq bpn bpl bhq bq bhf bfg false false [])).hs) (((RS.mk sc us pw hk hs hn hp port opq pn pl hq q hf fg bare sp rst).cc (RS.mk bsc bus bpw bhk bhs bhn bhp bport bopq bpn bpl bhq bq bhf bfg false false [])).hn) (((RS.mk sc us pw hk hs hn hp port opq pn pl hq q hf fg bare sp rst).cc (RS.mk bsc bus bpw bhk bhs bhn bhp bport bopq bpn bpl bhq bq bhf bfg false false [])).hp) port opq (((RS.mk sc us pw hk hs hn hp port opq pn pl hq q hf fg bare sp rst).cc (RS.mk bsc bus bpw bhk bhs bhn bhp bport bopq bpn bpl bhq bq bhf bfg false false [])).pn) (((RS.mk sc us pw hk hs hn hp port opq pn pl hq q hf fg bare sp rst).cc (RS.mk bsc bus bpw bhk bhs bhn bhp bport bopq bpn bpl bhq bq bhf bfg false false [])).pl) hq q hf fg bare sp (((RS.mk sc us pw hk hs hn hp port opq pn pl hq q hf fg bare sp rst).cc (RS.mk bsc bus bpw bhk bhs bhn bhp bport bopq bpn bpl bhq bq bhf bfg false false [])).rst),bG 0 bsc bus bpw bhk bhs bhn bhp bport bopq bpn bpl bhq bq bhf bfg]:=bH (by kernel_rfl) AR (H:=Cd sc us pw hk hs hn hp port opq pn pl hq q hf fg bare sp rst bsc bus bpw bhk bhs bhn bhp bport bopq bpn bpl bhq bq bhf bfg) (fuel:=1000) Tryz.func76 (by kernel_rfl) (Nat.le_of_ble_eq_true rfl) fun hpre=>(G3 sc us pw hk hs hn hp port opq pn pl hq q hf fg bare sp rst bsc bus bpw bhk bhs bhn bhp bport bopq bpn bpl bhq bq bhf bfg _).mpr (by
 obtain ⟨h1,h2,h3,h4,h5,h6⟩:=hpre
 have hz:(0:Int)≤0∧(0:Int)<1000:=⟨by decide,by decide⟩
 have hp:(b6 sc (bpn,bpl)).2.length≤100000:=by
  unfold b6
  split
  ·exact h2
  ·show(bpl.take _).length≤_
   rw [List.length_take];omega
 exact ⟨⟨hz,h3⟩,(fun h=>nomatch h),fun _=>⟨(fun h=>nomatch h),fun _=>⟨h3,(fun h=>nomatch h),fun _=>⟨h6,(fun h=>nomatch h),fun _=>⟨show bpl.length≤1000000 by omega,h4,(fun h=>nomatch h),fun _=>⟨⟨h1,by omega,h5⟩,⟨h1,hp⟩,rfl,rfl⟩⟩⟩⟩⟩⟩)
theorem G4(sc us pw:Bs)(hk:Int)(hs:Bs)(hn:Int)(hp:List Int)(port:Int)(opq pn:Bool)(pl:List Bs)(hq:Bool)(q:Bs)(hf:Bool)(fg:Bs)(bare sp:Bool)(rst:Bs)(bsc bus bpw:Bs)(bhk:Int)(bhs:Bs)(bhn:Int)(bhp:List Int)(bport:Int)(bopq bpn:Bool)(bpl:List Bs)(bhq:Bool)(bq:Bs)(bhf:Bool)(bfg:Bs):ag Tryz.prog aA 76 [.ptr 0 0,aE 1 (.ptr 1 0) sc us pw hk hs hn hp port opq pn pl hq q hf fg bare sp rst,bG 0 bsc bus bpw bhk bhs bhn bhp bport bopq bpn bpl bhq bq bhf bfg] ⟨rst.length≤300000∧bpl.length≤100000∧az sp rst 0=false∧bT rst=false∧bC rst=false∧bsc=sc,.tup [.int .i64 0,aE 1 (.ptr 1 0) sc us pw (((RS.mk sc us pw hk hs hn hp port opq pn pl hq q hf fg bare sp rst).cc (RS.mk bsc bus bpw bhk bhs bhn bhp bport bopq bpn bpl bhq bq bhf bfg false false [])).hk) (((RS.mk sc us pw hk hs hn hp port opq pn pl hq q hf fg bare sp rst).cc (RS.mk bsc bus bpw bhk bhs bhn bhp bport bopq bpn bpl bhq bq bhf bfg false false [])).hs) (((RS.mk sc us pw hk hs hn hp port opq pn pl hq q hf fg bare sp rst).cc (RS.mk bsc bus bpw bhk bhs bhn bhp bport bopq bpn bpl bhq bq bhf bfg false false [])).hn) (((RS.mk sc us pw hk hs hn hp port opq pn pl hq q hf fg bare sp rst).cc (RS.mk bsc bus bpw bhk bhs bhn bhp bport bopq bpn bpl bhq bq bhf bfg false false [])).hp) port opq (((RS.mk sc us pw hk hs hn hp port opq pn pl hq q hf fg bare sp rst).cc (RS.mk bsc bus bpw bhk bhs bhn bhp bport bopq bpn bpl bhq bq bhf bfg false false [])).pn) (((RS.mk sc us pw hk hs hn hp port opq pn pl hq q hf fg bare sp rst).cc (RS.mk bsc bus bpw bhk bhs bhn bhp bport bopq bpn bpl bhq bq bhf bfg false false [])).pl) hq q hf fg bare sp (((RS.mk sc us pw hk hs hn hp port opq pn pl hq q hf fg bare sp rst).cc (RS.mk bsc bus bpw bhk bhs bhn bhp bport bopq bpn bpl bhq bq bhf bfg false false [])).rst),bG 0 bsc bus bpw bhk bhs bhn bhp bport bopq bpn bpl bhq bq bhf bfg]⟩:=ag.bd (fun h=>by have e:List.isEmpty (PV.aB PV.bD [.ptr 0 0,aE 1 (.ptr 1 0) sc us pw hk hs hn hp port opq pn pl hq q hf fg bare sp rst,bG 0 bsc bus bpw bhk bhs bhn bhp bport bopq bpn bpl bhq bq bhf bfg])=false:=(by kernel_rfl);exact Bool.noConfusion (e.symm.trans (congrArg List.isEmpty h))) (AS sc us pw hk hs hn hp port opq pn pl hq q hf fg bare sp rst bsc bus bpw bhk bhs bhn bhp bport bopq bpn bpl bhq bq bhf bfg)
def oa:List PV→Option aI:=fun xs=>match xs with
 |[.ptr 0 0,aE 1 (.ptr 1 0) sc us pw hk hs hn hp port opq pn pl hq q hf fg bare sp rst,bG 0 bsc bus bpw bhk bhs bhn bhp bport bopq bpn bpl bhq bq bhf bfg]=>some ⟨rst.length≤300000∧bpl.length≤100000∧az sp rst 0=false∧bT rst=false∧bC rst=false∧bsc=sc,.tup [.int .i64 0,aE 1 (.ptr 1 0) sc us pw (((RS.mk sc us pw hk hs hn hp port opq pn pl hq q hf fg bare sp rst).cc (RS.mk bsc bus bpw bhk bhs bhn bhp bport bopq bpn bpl bhq bq bhf bfg false false [])).hk) (((RS.mk sc us pw hk hs hn hp port opq pn pl hq q hf fg bare sp rst).cc (RS.mk bsc bus bpw bhk bhs bhn bhp bport bopq bpn bpl bhq bq bhf bfg false false [])).hs) (((RS.mk sc us pw hk hs hn hp port opq pn pl hq q hf fg bare sp rst).cc (RS.mk bsc bus bpw bhk bhs bhn bhp bport bopq bpn bpl bhq bq bhf bfg false false [])).hn) (((RS.mk sc us pw hk hs hn hp port opq pn pl hq q hf fg bare sp rst).cc (RS.mk bsc bus bpw bhk bhs bhn bhp bport bopq bpn bpl bhq bq bhf bfg false false [])).hp) port opq (((RS.mk sc us pw hk hs hn hp port opq pn pl hq q hf fg bare sp rst).cc (RS.mk bsc bus bpw bhk bhs bhn bhp bport bopq bpn bpl bhq bq bhf bfg false false [])).pn) (((RS.mk sc us pw hk hs hn hp port opq pn pl hq q hf fg bare sp rst).cc (RS.mk bsc bus bpw bhk bhs bhn bhp bport bopq bpn bpl bhq bq bhf bfg false false [])).pl) hq q hf fg bare sp (((RS.mk sc us pw hk hs hn hp port opq pn pl hq q hf fg bare sp rst).cc (RS.mk bsc bus bpw bhk bhs bhn bhp bport bopq bpn bpl bhq bq bhf bfg false false [])).rst),bG 0 bsc bus bpw bhk bhs bhn bhp bport bopq bpn bpl bhq bq bhf bfg]⟩
 |_=>none
theorem vS:∀xs c,oa xs=some c→ag Tryz.prog aA 76 xs c:=fun xs c h=>by
 unfold oa at h
 split at h
 ·injection h with h;subst h;exact G4 _ _ _ _ _ _ _ _ _ _ _ _ _ _ _ _ _ _ _ _ _ _ _ _ _ _ _ _ _ _ _ _ _
 ·cases h
end
end Go.Proofs.YtmfapopclbnlpaaGreatDoor
