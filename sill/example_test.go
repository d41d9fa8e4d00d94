package sill_test

import (
	"fmt"

	"sill/api"
	"sill/sill"
)

func Example() {
	b, e := sill.Frame(api.Item{Kind: api.Event, Key: "a", Time: 3, Value: 7, Tag: 1})
	fmt.Println(len(b), e)
	i, n, e := sill.Unframe(append(b, "more"...))
	fmt.Println(i, n, e)
	i, n, e = sill.Unframe(b[:5])
	fmt.Println(i, n, e)
	// Output:
	// 26 0
	// {1 a 3 7 1} 26 0
	// {0  0 0 0} 0 0
}
