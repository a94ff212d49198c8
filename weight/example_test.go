package weight_test

import (
	"fmt"

	"cresset/api"
	"cresset/weight"
)

// Example is what README.md shows.
func Example() {
	third, _ := weight.Read("1/3")
	half, _ := weight.Read("0.5")
	sum, e := weight.Add(third, half)
	fmt.Println(weight.Text(sum), e)
	low, high, _ := weight.Decimal(sum, 2)
	fmt.Println(low, high)
	after, evidence, e := weight.Update([]api.Part{half, half}, []api.Part{third, sum})
	fmt.Println(weight.Text(after[0]), weight.Text(after[1]), weight.Text(evidence), e)
	// Output:
	// 5/6 0
	// 0.83 0.84
	// 2/7 5/7 7/12 0
}
