package escrow

import "armistice/api"

// account is how much an account holds, or how much is put to one or taken off it. As it is unsigned, a number below 0 comes out beyond the cap, and one comparison refuses both.
type account uint64

// kinds tells what each kind does, by the kinds' numbers: what an account holds then, and what is returned. Below Deposit none is an account's.
func kinds() [api.Balance + 1]func(account, account) (account, int) {
	return [...]func(account, account) (account, int){
		api.Deposit:  account.deposit,
		api.Withdraw: account.withdraw,
		api.Balance:  account.balance,
	}
}

func (n account) capped() bool { return n <= api.Cap }

// room is what is left up to the cap. What is put in is held against it, and no sum against the cap: that of two accounts may be more than a number holds.
func (n account) room() account { return api.Cap - n }

func (n account) deposit(x account) (account, int) {
	if x > n.room() {
		return n, 0
	}
	return n + x, 1
}

func (n account) withdraw(x account) (account, int) {
	if x > n {
		return n, 0
	}
	return n - x, 1
}

// balance takes an argument only because the other kinds do.
func (n account) balance(account) (account, int) { return n, int(n) }
